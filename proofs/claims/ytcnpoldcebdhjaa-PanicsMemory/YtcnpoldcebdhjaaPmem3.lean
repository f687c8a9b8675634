/- Memory: numbers and calls that are written over. -/
import Derived.Test.YtcnpoldcebdhjaaPmem2
namespace Go.Proofs.Ytcnpoldcebdhjaa
open Go.ChangeShapes Go.WideShapes Go.ChangeAt Go.RowKit
set_option maxRecDepth 100000
set_option linter.unusedSimpArgs false
set_option linter.unusedVariables false
/-- All blocks but the own one are as they were. -/
def Oth (v : Value) (u u' : World) : Prop := ∀ b, some b ≠ v.ownBlock → b < u.heap.size → u'.heap[b]? = u.heap[b]?
theorem Oth.trans {v : Value} {u u1 u2 : World} (h1 : Oth v u u1) (h2 : Oth v u1 u2) (hs : u.heap.size ≤ u1.heap.size) : Oth v u u2 := fun b hb hl => by rw [h2 b hb (by omega), h1 b hb hl]
theorem arr_at {B T : Nat} {u : World} {e s n : Nat} {v : Value} (h : Arr B T u e s v n) (hn : 0 < n) : ∃ g cap cur, v = .slice (some ⟨g, 0, none⟩) n cap ∧ B ≤ g ∧ g < T ∧ u.heap[g]? = some (Obj.cells cur e (0, 0)) ∧ n * s ≤ cur.size := by
  obtain ⟨xs, hr, ht⟩ := h
  rcases hr.2 with ⟨h1, h2⟩ | ⟨g, cap, cur, rfl, h2, h3, h4, h5, h6, h7⟩
  · omega
  · exact ⟨g, cap, cur, rfl, h2, ht g rfl, h3, by rw [h6]; exact Nat.mul_le_mul_right _ h4⟩
theorem arr_slice {B T : Nat} {u : World} {e s n : Nat} {v : Value} (h : Arr B T u e s v n) : ∃ ao cap, v = .slice ao n cap := row_slice h.choose_spec.1
theorem cell_in {u : World} {g j : Nat} {cur : Array Value} {e : TypeId} (h : u.heap[g]? = some (Obj.cells cur e (0, 0))) (hj : j < cur.size) : (∃ y, u.cell? ⟨g, j, none⟩ = some y) ∧ u.frozen? ⟨g, j, none⟩ = false := by
  refine ⟨⟨cur[j], ?_⟩, by simp [World.frozen?, h]⟩
  simp [World.cell?, h, hj]
theorem oth_set {v : Value} {u : World} {g j n cap : Nat} (hv : v = .slice (some ⟨g, 0, none⟩) n cap) (x : Value) : Oth v u (u.setCell ⟨g, j, none⟩ x) := fun b hb _ => heap_setCell_other _ _ _ _ (fun e => hb (by subst hv; simp only [Value.ownBlock]; simp at e; rw [e]))
theorem oth_last {v : Value} {w u : World} {g j : Nat} {x : Value} (h : Oth v w u) (hg : v.ownBlock = some g ∨ w.heap.size ≤ g) : Oth v w (u.setCell ⟨g, j, none⟩ x) := fun b hb hl => by
  rw [heap_setCell_other _ _ _ _ (fun e => by
    simp at e
    rcases hg with h1 | h1
    · exact hb (by rw [h1, e])
    · omega)]
  exact h b hb hl
theorem own_or {B T : Nat} {u w : World} {e s n g : Nat} {v : Value} (h : Arr B T u e s v n) (hg : v.ownBlock = some g ∨ u.heap.size ≤ g) (hw : w.heap.size ≤ u.heap.size) : g < T ∨ w.heap.size ≤ g := by
  rcases hg with h1 | h1
  · obtain ⟨xs, _, ht⟩ := h
    exact .inl (ht g h1)
  · exact .inr (by omega)
set_option maxHeartbeats 2000000 in
theorem own_scribble (v : Value) (n B T : Nat) (w : World) (h : Arr B T w 3 1 v n) (hB : B ≤ w.heap.size) (hz : n ≤ 17592186043904) :
    Calls Try.prog 23 #[v] w fun e w' => e = .returned (.tuple #[]) ∧ Sc B T w w' ∧ Oth v w w' := by
  obtain ⟨i0, hi, hz0, hz1, hz2⟩ := info_parts Try.infoIntP
  obtain ⟨po, pc, rfl⟩ := arr_slice h
  have HA : Hid (Arr B T w 3 1 (.slice po n pc) n) := h
  clear h
  go_enter Try.func23, Try.ntmps23
  go_wp2_with fail
  go_loopw [2] (fun i wr => ∃ k : Nat, k ≤ n ∧ i = .int .i64 k ∧ Hid (Sc B T w wr) ∧ Hid (Oth (.slice po n pc) w wr)) (fun i _ => n - (intOf i).toNat)
  case atStart => exact ⟨0, Nat.zero_le _, rfl, Sc.refl _ _ _, fun _ _ _ => rfl⟩
  case round =>
    obtain ⟨k, hk, rfl, HS, HO⟩ := hrel
    by_cases hlt : k < n
    · obtain ⟨g, cap, cur, hv, hBg, hgT, hg, hsz⟩ := arr_at (HA.out.sc HS.out) (by omega)
      injection hv with hv1 hv2 hv3
      subst hv1
      obtain ⟨⟨y, cy⟩, fy⟩ := cell_in (j := k) hg (by omega)
      have HS2 : Hid (Sc B T w (wr.setCell ⟨g, k, none⟩ (.int .i64 (-99)))) := HS.out.trans (Sc.set hBg (.inl hgT) hg _)
      have HO2 : Hid (Oth (.slice (some ⟨g, 0, none⟩) n pc) w (wr.setCell ⟨g, k, none⟩ (.int .i64 (-99)))) := HO.out.trans (oth_set rfl _) HS.out.bel.size
      have hlt2 : (k : Int) < (n : Int) := by omega
      clear hg hsz hv2 hv3
      go_wp2_with fail
      go_roundw
      case rel => exact ⟨k + 1, by omega, by go_num, HS2.out, HO2.out⟩
      case measure => simp [intOf]; omega
    · have hlt2 : ¬ (k : Int) < (n : Int) := by omega
      have hA1 : ∀ o, Arr B T (wr.alloc o) 3 1 (.slice po n pc) n := fun o => (HA.out.sc HS.out).sc (Sc.alloc (Nat.le_trans hB HS.out.bel.size) o)
      have HA1 : Hid _ := hA1
      have HSZ : Hid (B ≤ wr.heap.size) := Nat.le_trans hB HS.out.bel.size
      have HO1 : Hid (∀ o, Oth (.slice po n pc) w (wr.alloc o)) := fun o => HO.out.trans (fun b _ hl => ((Below.refl wr.heap.size wr).alloc (Nat.le_refl _) o).block b hl) HS.out.bel.size
      have HS1 : Hid (∀ o, Sc B T w (wr.alloc o)) := fun o => HS.out.trans (Sc.alloc HSZ.out o)
      clear hA1
      go_wp2_with (at_builtin; refine app2 rfl _ _ 30 rfl B T 3 i0 (.int .i64 0) 1 8 Try.underlying30 hi hz0 hz1 hz2 rfl (by decide) _ n rfl (HA1.out _) ⟨wr.heap.size, 0, none⟩ 3 3 [.int .i64 (-99), .int .i64 (-99), .int .i64 (-99)] rfl rfl (three_new _ _ _ _) (fun y hy => by simp at hy; subst hy; rfl) (by decide) (by unfold maxLen; omega) (by omega) (by have := HSZ.out; simp; omega) ?_; intro g cap cur w3 hg3 hc3 hs3 hB3 hT3 ho3; obtain ⟨⟨y3, cy3⟩, fy3⟩ := cell_in (j := 0) hg3 (by omega); have HS3 : Hid (Sc B T w (w3.setCell ⟨g, 0, none⟩ (.int .i64 (-98)))) := ((HS1.out _).trans hs3).last hB3 (own_or (HA1.out (.cells #[.int .i64 (-99), .int .i64 (-99), .int .i64 (-99)] 3)) hT3 (by have := (HS1.out (.cells #[.int .i64 (-99), .int .i64 (-99), .int .i64 (-99)] 3)).bel.size; exact this)) hg3 _; have HO3 : Hid (Oth (.slice po n pc) w (w3.setCell ⟨g, 0, none⟩ (.int .i64 (-98)))) := oth_last ((HO1.out _).trans ho3 (by have := (HS1.out (.cells #[.int .i64 (-99), .int .i64 (-99), .int .i64 (-99)] 3)).bel.size; exact this)) (hT3.imp id (fun h => Nat.le_trans (HS1.out (.cells #[.int .i64 (-99), .int .i64 (-99), .int .i64 (-99)] 3)).bel.size h)); clear hg3 hs3 ho3)
      go_end0
      exact ⟨rfl, HS3.out, HO3.out⟩
end Go.Proofs.Ytcnpoldcebdhjaa
