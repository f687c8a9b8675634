/- Memory: room behind numbers, and numbers that stayed. -/
import Derived.Test.YtcnpoldcebdhjaaPlast
import Derived.BigQuiet
import Derived.Deep.QuietTactic
import Derived.Laws.CopyOwn
import Derived.Maps.AppendAt
namespace Go.Proofs.Ytcnpoldcebdhjaa
open Go.ChangeShapes Go.WideShapes Go.ChangeAt Go.RowKit
set_option maxRecDepth 100000
set_option linter.unusedSimpArgs false
set_option linter.unusedVariables false
theorem ILies.at {w : World} {v : Value} {l : List Int} (h : ILies w v l) {k : Nat} (hk : k < l.length) : ∃ b off cap, v = .slice (some ⟨b, off, none⟩) l.length cap ∧ w.cell? ⟨b, off + k, none⟩ = some (.int .i64 l[k]) := by
  rcases h with ⟨_, h⟩ | ⟨⟨b, off, spot⟩, cap, h1, h2, h2', h3, h4⟩
  · subst h; simp at hk
  · have := h3 (by rintro rfl; simp at hk)
    simp only at this
    subst this
    refine ⟨b, off, cap, h1, ?_⟩
    have := h4 k l[k] (List.getElem?_eq_getElem hk)
    rwa [add_plain] at this
theorem show_below {w : World} {o : Obj} : Below w.heap.size w (w.alloc o) := (Below.refl _ _).alloc (Nat.le_refl _) _
def roomC (l : List Int) : List Value := l.map (Value.int .i64) ++ [.int .i64 (-4711), .int .i64 (-4712)]
theorem roomC_len (l : List Int) : (roomC l).length = l.length + 2 := by simp [roomC]
theorem roomC_get (l : List Int) (k : Nat) (h : k < l.length) : (roomC l)[k]? = some (.int .i64 l[k]) := by
  unfold roomC
  rw [List.getElem?_append_left (by simpa using h)]
  simp [h]
theorem roomC_a (l : List Int) : (roomC l)[l.length]? = some (.int .i64 (-4711)) := by
  unfold roomC
  rw [List.getElem?_append_right (by simp)]
  simp
theorem roomC_b (l : List Int) : (roomC l)[l.length + 1]? = some (.int .i64 (-4712)) := by
  unfold roomC
  rw [List.getElem?_append_right (by simp)]
  simp
/-- Numbers with marked room behind them. -/
def Room (u : World) (g : Nat) (l : List Int) : Prop := u.heap[g]? = some (.cells (roomC l).toArray 3 (0, 0))
theorem Room.cell {u : World} {g : Nat} {l : List Int} (h : Room u g l) {k : Nat} {v : Value} (hk : (roomC l)[k]? = some v) : u.cell? ⟨g, k, none⟩ = some v := by
  unfold Room at h
  simp [World.cell?, h]
  rw [hk]
theorem Room.lies {u : World} {g : Nat} {l : List Int} (h : Room u g l) (hz : l.length ≤ 17592186043904) : ILies u (.slice (some ⟨g, 0, none⟩) l.length (l.length + 2)) l := by
  refine .inr ⟨⟨g, 0, none⟩, l.length + 2, rfl, by omega, by unfold maxLen; omega, fun _ => rfl, fun k i hk => ?_⟩
  obtain ⟨hkl, rfl⟩ := List.getElem?_eq_some_iff.1 hk
  rw [add_plain, Nat.zero_add]
  exact h.cell (roomC_get l k hkl)
theorem zero_icells (m : Nat) : madeCells #[.int .i64 0] m = (List.replicate m (Value.int .i64 0)).toArray := by
  apply Array.ext
  · simp [size_madeCells]
  · intro i h1 h2
    simp [madeCells, Nat.mod_one]
theorem repl_there (w : World) (m : Nat) (x : Value) (t : TypeId) : (w.alloc (.cells (Array.replicate m x) t)).heap[w.heap.size]? = some (.cells (List.replicate m x).toArray t (0, 0)) := by
  rw [List.toArray_replicate]
  show (w.heap.push _)[w.heap.size]? = some _
  exact Array.getElem?_push_size
theorem splice_repl (l : List Int) : splice (List.replicate (l.length + 2) (Value.int .i64 0)) 0 (l.map (Value.int .i64)) = l.map (Value.int .i64) ++ [.int .i64 0, .int .i64 0] := by
  simp only [splice, List.take_zero, List.nil_append, Nat.zero_add, List.length_map]
  rw [List.drop_replicate, show l.length + 2 - l.length = 2 by omega]
  rfl
theorem set_room {u : World} {g : Nat} {l : List Int} {a b : Value} (h : u.heap[g]? = some (.cells (l.map (Value.int .i64) ++ [a, b]).toArray 3 (0, 0))) :
    Room ((u.setCell ⟨g, l.length, none⟩ (.int .i64 (-4711))).setCell ⟨g, l.length + 1, none⟩ (.int .i64 (-4712))) g l := by
  unfold Room roomC
  simp [World.setCell, Array.getElem?_modify, h]
theorem room0_a {u : World} {g : Nat} {l : List Int} {a b : Value} (h : u.heap[g]? = some (.cells (l.map (Value.int .i64) ++ [a, b]).toArray 3 (0, 0))) : u.cell? ⟨g, l.length, none⟩ = some a := by
  simp [World.cell?, h]
theorem room0_b {u : World} {g : Nat} {l : List Int} {a b : Value} (h : u.heap[g]? = some (.cells (l.map (Value.int .i64) ++ [a, b]).toArray 3 (0, 0))) : u.cell? ⟨g, l.length + 1, none⟩ = some b := by
  simp [World.cell?, h, List.getElem?_append_right]
set_option maxHeartbeats 2000000 in
theorem own_roomy (l : List Int) (L : Value) (w : World) (hm : ILies w L l) (hz : l.length ≤ 17592186043904) :
    Calls Try.prog 39 #[L] w fun e w' => e = .returned (.slice (some ⟨w.heap.size, 0, none⟩) l.length (l.length + 2)) ∧ Room w' w.heap.size l ∧ Below w.heap.size w w' := by
  obtain ⟨lo, lc, rfl⟩ := hm.shape
  obtain ⟨i0, hi, hz0, hz1, hz2⟩ := info_parts Try.infoIntP
  have hmk : ∀ u : World, (Instr.makeSlice 30 (.int .i64 ((l.length : Int) + 2)) (.int .i64 ((l.length : Int) + 2))).run Try.prog u =
      .ok (.slice (some ⟨u.heap.size, 0, none⟩) (l.length + 2) (l.length + 2)) (u.alloc (.cells (List.replicate (l.length + 2) (Value.int .i64 0)).toArray 3)) := fun u => by
    have h := run_make (P := Try.prog) u 30 3 i0 (.int .i64 0) Try.underlying30 hi hz0 .i64 .i64 ((l.length : Int) + 2) ((l.length : Int) + 2) (by omega) (Int.le_refl _) (by rw [hz2]; omega) (by omega)
    have e : ((l.length : Int) + 2).toNat = l.length + 2 := by omega
    rw [e] at h
    rw [← zero_icells]
    simpa [hz1, Value.cells] using h
  have HPOS : Hid (∀ o, 0 < (l.map (Value.int .i64)).length → ∃ ad, lo = some ad ∧ ∀ j v, (l.map (Value.int .i64))[j]? = some v → (w.alloc o).cell? (ad.add j) = some v) := fun o hpos => by
    have hm2 := hm.below (show_below (o := o)) (Nat.le_refl _)
    rcases hm2 with ⟨h1, h2⟩ | ⟨a, cap, h1, h2, h2', h3, h4⟩
    · subst h2; simp at hpos
    · cases h1
      refine ⟨a, rfl, fun j v hv => ?_⟩
      rw [List.getElem?_map] at hv
      cases hk : l[j]? with
      | none => rw [hk] at hv; cases hv
      | some i => rw [hk] at hv; cases hv; exact h4 j i hk
  have hsi : (Try.prog.info? 3).map (·.size) = some 1 := by rw [hi]; simp [hz1]
  clear hm
  go_enter Try.func39, Try.ntmps39
  go_wp2_with (refine wpList_copy_splice rfl _ _ 30 30 rfl 3 Try.underlying30 hsi (some ⟨w.heap.size, 0, none⟩) lo (l.length + 2) (l.length + 2) l.length lc rfl rfl w.heap.size 0 (List.replicate (l.length + 2) (Value.int .i64 0)) 3 (repl_there _ _ _ _) (l.map (Value.int .i64)) (by simp only [List.length_map]; exact (Nat.min_eq_left (by omega)).symm) (fun h => ⟨rfl, HPOS.out _ h⟩) (by simp) (fun u hu => by obtain ⟨i, _, rfl⟩ := List.mem_map.1 hu; rfl) w.heap.size w show_below (Nat.le_refl _) ?_; intro w1 hg1 hb1; rw [splice_repl] at hg1; have HB1 : Hid _ := hb1; have ca : w1.cell? ⟨w.heap.size, l.length, none⟩ = some (.int .i64 0) := (room0_a hg1.out); have cb : w1.cell? ⟨w.heap.size, l.length + 1, none⟩ = some (.int .i64 0) := (room0_b hg1.out); have fa : w1.frozen? ⟨w.heap.size, l.length, none⟩ = false := (by have := hg1.out; simp [World.frozen?, this]); have fb : w1.frozen? ⟨w.heap.size, l.length + 1, none⟩ = false := (by have := hg1.out; simp [World.frozen?, this]); clear hb1)
  go_ret
  exact ⟨rfl, set_room hg1.out, (HB1.out.setCell (Nat.le_refl _) _).setCell (Nat.le_refl _) _⟩
set_option maxHeartbeats 2000000 in
theorem own_stayed (l : List Int) (L : Value) (g : Nat) (w : World) (hm : ILies w L l) (hr : Room w g l) (hz : l.length ≤ 17592186043904) :
    Calls Try.prog 24 #[.slice (some ⟨g, 0, none⟩) l.length (l.length + 2), L] w fun e w' => e = .returned (.bool true) ∧ ∃ m, w' = w.drewN m := by
  obtain ⟨lo, lc, rfl⟩ := hm.shape
  have HX : Hid (∀ k (h1 : k < l.length), ∃ b1 o1, lo = some ⟨b1, o1, none⟩ ∧ w.cell? ⟨b1, o1 + k, none⟩ = some (.int .i64 l[k]) ∧ w.cell? ⟨g, k, none⟩ = some (.int .i64 l[k])) := fun k h1 => by
    obtain ⟨b1, o1, c1, e1, x1⟩ := hm.at h1
    cases e1
    exact ⟨b1, o1, rfl, x1, hr.cell (roomC_get l k h1)⟩
  have HA : Hid (w.cell? ⟨g, l.length, none⟩ = some (.int .i64 (-4711))) := hr.cell (roomC_a l)
  have HB : Hid (w.cell? ⟨g, l.length + 1, none⟩ = some (.int .i64 (-4712))) := hr.cell (roomC_b l)
  clear hm hr
  go_enter Try.func24, Try.ntmps24
  go_wp2_with fail
  go_loopw [5] (fun i wr => ∃ k : Nat, k ≤ l.length ∧ i = .int .i64 k ∧ Hid (∃ q, wr = w.drewN q)) (fun i _ => l.length - (intOf i).toNat)
  case atStart => exact ⟨0, Nat.zero_le _, rfl, 0, rfl⟩
  case round =>
    obtain ⟨k, hk, rfl, HW⟩ := hrel
    obtain ⟨q, rfl⟩ := HW.out
    by_cases hlt : k < l.length
    · obtain ⟨b1, o1, rfl, x1, x2⟩ := HX.out k hlt
      have hlt2 : (k : Int) < (l.length : Int) := by omega
      generalize l[k] = p at *
      have hne : (p != p) = false := by simp
      go_wp2_with fail
      go_quiet (fail)
      go_wp2_with fail
      go_roundw
      case rel => exact ⟨k + 1, by omega, by go_num, _, rfl⟩
      case measure => simp [intOf]; omega
    · have hkn : k = l.length := by omega
      subst hkn
      have hlt2 : ¬ (l.length : Int) < (l.length : Int) := by omega
      have ca := HA.out
      have cb := HB.out
      go_wp2_with fail
      all_goals go_ret
      exact ⟨rfl, _, rfl⟩
theorem row_set {u : World} {B n cap g k : Nat} {xs : List Value} (h : u.ownsRow B 3 1 (.slice (some ⟨g, 0, none⟩) n cap) n xs) (hk : k < n) (v : Value) :
    (∃ y, u.cell? ⟨g, k, none⟩ = some y) ∧ u.frozen? ⟨g, k, none⟩ = false ∧ B ≤ g ∧ ∃ ys, (u.setCell ⟨g, k, none⟩ v).ownsRow B 3 1 (.slice (some ⟨g, 0, none⟩) n cap) n ys := by
  rcases h.2 with ⟨h1, _⟩ | ⟨g', cap', cur, h1, h2, h3, h4, h5, h6, h7⟩
  · cases h1
  · cases h1
    refine ⟨⟨cur[k]'(by omega), ?_⟩, ?_, h2, (cur.setIfInBounds k v).toList.take (n * 1), ?_, .inr ⟨g, cap, cur.setIfInBounds k v, rfl, h2, ?_, h4, h5, by simpa using h6, rfl⟩⟩
    · simp [World.cell?, h3]
    · simp [World.frozen?, h3]
    · simp; omega
    · simp [World.setCell, Array.getElem?_modify, h3]
theorem three_new (w : World) (a b c : Value) : ∀ (j : Nat) u, [a, b, c][j]? = some u → (w.alloc (.cells #[a, b, c] 3)).cell? ((⟨w.heap.size, 0, none⟩ : Addr).add j) = some u := by
  intro j u hu
  have h : (w.alloc (.cells #[a, b, c] 3)).heap[w.heap.size]? = some (.cells #[a, b, c] 3 (0, 0)) := by
    show (w.heap.push _)[w.heap.size]? = some _
    exact Array.getElem?_push_size
  rw [add_plain, Nat.zero_add]
  generalize w.alloc (.cells #[a, b, c] 3) = W at h ⊢
  simp only [World.cell?, h]
  rw [← hu]
  match j with
  | 0 => rfl
  | 1 => rfl
  | 2 => rfl
  | j + 3 => simp
theorem row_some {u : World} {B e s n m : Nat} {ao : Option Addr} {c : Nat} {xs : List Value} (h : u.ownsRow B e s (.slice ao n c) m xs) (hm : 0 < m) : ∃ g, ao = some ⟨g, 0, none⟩ := by
  rcases h.2 with ⟨h1, h0⟩ | ⟨g, cap, cur, h1, _⟩
  · omega
  · cases h1; exact ⟨g, rfl⟩
end Go.Proofs.Ytcnpoldcebdhjaa
