/- Memory: room behind numbers, numbers written over, numbers that stayed. -/
import Derived.Test.YtjfmhppgjhgdaabDoorVseenp
import Derived.Test.YtjfmhppgjhgdaabDoorVbuild
import Derived.Laws.CopyOwn
import Derived.Maps.AppendAt
namespace Go.Proofs.YtjfmhppgjhgdaabDoor
open Go.ChangeShapes Go.WideShapes Go.ChangeAt Go.RowKit
set_option maxRecDepth 100000
set_option linter.unusedSimpArgs false
set_option linter.unusedVariables false

set_option maxHeartbeats 2000000 in
theorem own_plain2 (x : Vv) (L : Value) (w : World) (hi : VIn x) (hm : ILies w L x.l) :
    Calls Tryd.prog 8 #[vval x L] w fun e w' => ∃ L', e = .returned (vval (plainV x) L') ∧ w'.ownsRow (w.heap.size + 2) 3 1 L' (plainV x).l.length ((plainV x).l.map (Value.int .i64)) ∧ Below w.heap.size w w' := by
  have HU : Hid (∀ u, Calls Tryd.prog 17 #[vval x L] u fun e w' => e = .returned (vval (plainV x) (plainL x L)) ∧ Below u.heap.size u w') := fun u => own_used x L u (by obtain ⟨ao, cap, h⟩ := hm.shape; exact ⟨ao, _, cap, h⟩)
  have HN : Hid ((plainV x).l.length * 8 ≤ 140737488351232) := plain_sized hi
  have HM : Hid (∀ u, Below w.heap.size w u → ILies u (plainL x L) (plainV x).l) := fun u h => (plain_lies hm).below h (Nat.le_refl _)
  obtain ⟨mo, mc, hM⟩ := (plain_lies hm).shape
  rw [hM] at HU HM
  clear hM
  generalize plainV x = y at *
  unfold vval at *
  go_enter Tryd.func8, Tryd.ntmps8
  go_wp2_with fail
  refine (HU.out _).mono ?_
  rintro e w1 ⟨rfl, hb1⟩
  obtain ⟨hh1, hh2, hz, hb2⟩ := two_boxes hb1
  have HF1 : Hid _ := box4f hh1
  have HF2 : Hid _ := box4f hh2
  obtain ⟨⟨c0, c1, c2, c3⟩, f0, f1, f2, f3⟩ := box4 hh1
  obtain ⟨⟨d0, d1, d2, d3⟩, g0, g1, g2, g3⟩ := box4 hh2
  have HB : Hid _ := hb2
  clear hb1 hb2 hh1 hh2
  go_wp2_with (at_builtin; refine icopy rfl _ _ rfl rfl rfl (HM.out _ ((((HB.out.setCell (Nat.le_refl _) _).setCell (Nat.le_refl _) _).setCell (Nat.le_refl _) _).setCell (Nat.le_refl _) _)) HN.out (w.heap.size + 2) (by simp; omega) ?_; intro v' w2 hown hb3; obtain ⟨ao, cap, rfl⟩ := row_slice hown; have HO : Hid (w2.ownsRow (w.heap.size + 2) 3 1 (.slice ao y.l.length cap) y.l.length (y.l.map (Value.int .i64))) := hown; clear hown; obtain ⟨⟨k0, k1, k2, k3⟩, kf, kc, ks, kb⟩ := stored4 c0 c1 c2 c3 HF1.out (by omega) hb3; have HB3 : Hid _ := kb _ _ HB.out (Nat.le_refl _); have q0 := (kc (w.heap.size + 1) 0 (by omega) (by omega)); have q1 := (kc (w.heap.size + 1) 1 (by omega) (by omega)); have q2 := (kc (w.heap.size + 1) 2 (by omega) (by omega)); have q3 := (kc (w.heap.size + 1) 3 (by omega) (by omega)); rw [d0, g0] at q0; rw [d1, g1] at q1; rw [d2, g2] at q2; rw [d3, g3] at q3; obtain ⟨qa0, qb0⟩ := q0; obtain ⟨qa1, qb1⟩ := q1; obtain ⟨qa2, qb2⟩ := q2; obtain ⟨qa3, qb3⟩ := q3; have kf0 := kf 0; have kf1 := kf 1; have kf2 := kf 2; have kf3 := kf 3; clear hb3 kc kb kf)
  refine bodyPost_ret (v := vval y (.slice ao y.l.length cap)) (by simp [vval, results, Tryd.results8, go_sem, k0, k1, k2, k3, qa0, qa1, qa2, qa3]) rfl ⟨_, rfl, ?_, ?_⟩
  · exact ownsRow_setCell_below (ownsRow_setCell_below (ownsRow_setCell_below (ownsRow_setCell_below (ownsRow_setCell_below HO.out (by simp) _) (by simp) _) (by simp) _) (by simp) _) (by simp) _
  · exact ((((HB3.out.setCell (Nat.le_refl _) _).setCell (by simp) _).setCell (by simp) _).setCell (by simp) _).setCell (by simp) _
theorem owns_on {w w' : World} {B e s n : Nat} {v : Value} {xs : List Value} (h : w.ownsRow B e s v n xs) (hb : Below w.heap.size w w') : w'.ownsRow B e s v n xs := by
  refine ⟨h.1, ?_⟩
  rcases h.2 with h0 | ⟨g, cap, cur, h1, h2, h3, h4⟩
  · exact .inl h0
  · exact .inr ⟨g, cap, cur, h1, h2, by rw [hb.block g (Array.getElem?_eq_some_iff.1 h3).1]; exact h3, h4⟩
theorem owns_mono {w : World} {B B' e s n : Nat} {v : Value} {xs : List Value} (h : w.ownsRow B' e s v n xs) (hb : B ≤ B') : w.ownsRow B e s v n xs := by
  refine ⟨h.1, ?_⟩
  rcases h.2 with h0 | ⟨g, cap, cur, h1, h2, h3, h4⟩
  · exact .inl h0
  · exact .inr ⟨g, cap, cur, h1, by omega, h3, h4⟩
def roomC (l : List Int) : List Value := l.map (Value.int .i64) ++ [.int .i64 (-4711), .int .i64 (-4712)]
theorem roomC_len (l : List Int) : (roomC l).length = l.length + 2 := by simp [roomC]
theorem roomC_get (l : List Int) (k : Nat) (h : k < l.length) : (roomC l)[k]? = some (.int .i64 l[k]) := by
  unfold roomC
  rw [List.getElem?_append_left (by simpa using h)]
  simp [h]
theorem roomC_a (l : List Int) : (roomC l)[l.length]? = some (.int .i64 (-4711)) := by
  unfold roomC
  rw [List.getElem?_append_right (by simp)]
  simp
theorem roomC_b (l : List Int) : (roomC l)[l.length + 1]? = some (.int .i64 (-4712)) := by
  unfold roomC
  rw [List.getElem?_append_right (by simp)]
  simp
/-- Numbers with marked room behind them. -/
def Room (u : World) (g : Nat) (l : List Int) : Prop := u.heap[g]? = some (.cells (roomC l).toArray 3 (0, 0))
theorem Room.cell {u : World} {g : Nat} {l : List Int} (h : Room u g l) {k : Nat} {v : Value} (hk : (roomC l)[k]? = some v) : u.cell? ⟨g, k, none⟩ = some v := by
  unfold Room at h
  simp [World.cell?, h]
  rw [hk]
theorem Room.lies {u : World} {g : Nat} {l : List Int} (h : Room u g l) (hz : l.length ≤ 1048576) : ILies u (.slice (some ⟨g, 0, none⟩) l.length (l.length + 2)) l := by
  refine .inr ⟨⟨g, 0, none⟩, l.length + 2, rfl, by omega, by unfold maxLen; omega, fun _ => rfl, fun k i hk => ?_⟩
  obtain ⟨hkl, rfl⟩ := List.getElem?_eq_some_iff.1 hk
  rw [add_plain, Nat.zero_add]
  exact h.cell (roomC_get l k hkl)
theorem zero_cells (m : Nat) : madeCells #[.int .i64 0] m = (List.replicate m (Value.int .i64 0)).toArray := by
  apply Array.ext
  · simp [size_madeCells]
  · intro i h1 h2
    simp [madeCells, Nat.mod_one]
theorem repl_there (w : World) (m : Nat) (x : Value) (t : TypeId) : (w.alloc (.cells (Array.replicate m x) t)).heap[w.heap.size]? = some (.cells (List.replicate m x).toArray t (0, 0)) := by
  rw [List.toArray_replicate]
  show (w.heap.push _)[w.heap.size]? = some _
  exact Array.getElem?_push_size
theorem splice_repl (l : List Int) : splice (List.replicate (l.length + 2) (Value.int .i64 0)) 0 (l.map (Value.int .i64)) = l.map (Value.int .i64) ++ [.int .i64 0, .int .i64 0] := by
  simp only [splice, List.take_zero, List.nil_append, Nat.zero_add, List.length_map]
  rw [List.drop_replicate, show l.length + 2 - l.length = 2 by omega]
  rfl
theorem set_room {u : World} {g : Nat} {l : List Int} {a b : Value} (h : u.heap[g]? = some (.cells (l.map (Value.int .i64) ++ [a, b]).toArray 3 (0, 0))) :
    Room ((u.setCell ⟨g, l.length, none⟩ (.int .i64 (-4711))).setCell ⟨g, l.length + 1, none⟩ (.int .i64 (-4712))) g l := by
  unfold Room roomC
  simp [World.setCell, Array.getElem?_modify, h]
theorem room0_a {u : World} {g : Nat} {l : List Int} {a b : Value} (h : u.heap[g]? = some (.cells (l.map (Value.int .i64) ++ [a, b]).toArray 3 (0, 0))) : u.cell? ⟨g, l.length, none⟩ = some a := by
  simp [World.cell?, h]
theorem room0_b {u : World} {g : Nat} {l : List Int} {a b : Value} (h : u.heap[g]? = some (.cells (l.map (Value.int .i64) ++ [a, b]).toArray 3 (0, 0))) : u.cell? ⟨g, l.length + 1, none⟩ = some b := by
  simp [World.cell?, h, List.getElem?_append_right]
set_option maxHeartbeats 2000000 in
theorem own_roomy (l : List Int) (L : Value) (w : World) (hm : ILies w L l) (hz : l.length ≤ 1048576) :
    Calls Tryd.prog 7 #[L] w fun e w' => e = .returned (.slice (some ⟨w.heap.size, 0, none⟩) l.length (l.length + 2)) ∧ Room w' w.heap.size l ∧ Below w.heap.size w w' := by
  obtain ⟨lo, lc, rfl⟩ := hm.shape
  obtain ⟨i0, hi, hz0, hz1, hz2⟩ := info_parts Tryd.infoIntV
  have hmk : ∀ u : World, (Instr.makeSlice 22 (.int .i64 ((l.length : Int) + 2)) (.int .i64 ((l.length : Int) + 2))).run Tryd.prog u =
      .ok (.slice (some ⟨u.heap.size, 0, none⟩) (l.length + 2) (l.length + 2)) (u.alloc (.cells (List.replicate (l.length + 2) (Value.int .i64 0)).toArray 3)) := fun u => by
    have h := run_make (P := Tryd.prog) u 22 3 i0 (.int .i64 0) Tryd.underlying22 hi hz0 .i64 .i64 ((l.length : Int) + 2) ((l.length : Int) + 2) (by omega) (Int.le_refl _) (by rw [hz2]; omega) (by omega)
    have e : ((l.length : Int) + 2).toNat = l.length + 2 := by omega
    rw [e] at h
    rw [← zero_cells]
    simpa [hz1, Value.cells] using h
  have HPOS : Hid (∀ o, 0 < (l.map (Value.int .i64)).length → ∃ ad, lo = some ad ∧ ∀ j v, (l.map (Value.int .i64))[j]? = some v → (w.alloc o).cell? (ad.add j) = some v) := fun o hpos => by
    have hm2 := hm.below (show_below (o := o)) (Nat.le_refl _)
    rcases hm2 with ⟨h1, h2⟩ | ⟨a, cap, h1, h2, h2', h3, h4⟩
    · subst h2; simp at hpos
    · cases h1
      refine ⟨a, rfl, fun j v hv => ?_⟩
      rw [List.getElem?_map] at hv
      cases hk : l[j]? with
      | none => rw [hk] at hv; cases hv
      | some i => rw [hk] at hv; cases hv; exact h4 j i hk
  have hsi : (Tryd.prog.info? 3).map (·.size) = some 1 := by rw [hi]; simp [hz1]
  clear hm
  go_enter Tryd.func7, Tryd.ntmps7
  go_wp2_with (refine wpList_copy_splice rfl _ _ 22 22 rfl 3 Tryd.underlying22 hsi (some ⟨w.heap.size, 0, none⟩) lo (l.length + 2) (l.length + 2) l.length lc rfl rfl w.heap.size 0 (List.replicate (l.length + 2) (Value.int .i64 0)) 3 (repl_there _ _ _ _) (l.map (Value.int .i64)) (by simp only [List.length_map]; exact (Nat.min_eq_left (by omega)).symm) (fun h => ⟨rfl, HPOS.out _ h⟩) (by simp) (fun u hu => by obtain ⟨i, _, rfl⟩ := List.mem_map.1 hu; rfl) w.heap.size w show_below (Nat.le_refl _) ?_; intro w1 hg1 hb1; rw [splice_repl] at hg1; have HB1 : Hid _ := hb1; have ca : w1.cell? ⟨w.heap.size, l.length, none⟩ = some (.int .i64 0) := (room0_a hg1.out); have cb : w1.cell? ⟨w.heap.size, l.length + 1, none⟩ = some (.int .i64 0) := (room0_b hg1.out); have fa : w1.frozen? ⟨w.heap.size, l.length, none⟩ = false := (by have := hg1.out; simp [World.frozen?, this]); have fb : w1.frozen? ⟨w.heap.size, l.length + 1, none⟩ = false := (by have := hg1.out; simp [World.frozen?, this]); clear hb1)
  go_ret
  exact ⟨rfl, set_room hg1.out, (HB1.out.setCell (Nat.le_refl _) _).setCell (Nat.le_refl _) _⟩
set_option maxHeartbeats 2000000 in
theorem own_stayed (l : List Int) (L : Value) (g : Nat) (w : World) (hm : ILies w L l) (hr : Room w g l) (hz : l.length ≤ 1048576) :
    Calls Tryd.prog 12 #[.slice (some ⟨g, 0, none⟩) l.length (l.length + 2), L] w fun e w' => e = .returned (.bool true) ∧ ∃ m, w' = w.drewN m := by
  obtain ⟨lo, lc, rfl⟩ := hm.shape
  have HX : Hid (∀ k (h1 : k < l.length), ∃ b1 o1, lo = some ⟨b1, o1, none⟩ ∧ w.cell? ⟨b1, o1 + k, none⟩ = some (.int .i64 l[k]) ∧ w.cell? ⟨g, k, none⟩ = some (.int .i64 l[k])) := fun k h1 => by
    obtain ⟨b1, o1, c1, e1, x1⟩ := hm.at h1
    cases e1
    exact ⟨b1, o1, rfl, x1, hr.cell (roomC_get l k h1)⟩
  have HA : Hid (w.cell? ⟨g, l.length, none⟩ = some (.int .i64 (-4711))) := hr.cell (roomC_a l)
  have HB : Hid (w.cell? ⟨g, l.length + 1, none⟩ = some (.int .i64 (-4712))) := hr.cell (roomC_b l)
  clear hm hr
  go_enter Tryd.func12, Tryd.ntmps12
  go_wp2_with fail
  go_loopw [5] (fun i wr => ∃ k : Nat, k ≤ l.length ∧ i = .int .i64 k ∧ Hid (∃ q, wr = w.drewN q)) (fun i _ => l.length - (intOf i).toNat)
  case atStart => exact ⟨0, Nat.zero_le _, rfl, 0, rfl⟩
  case round =>
    obtain ⟨k, hk, rfl, HW⟩ := hrel
    obtain ⟨q, rfl⟩ := HW.out
    by_cases hlt : k < l.length
    · obtain ⟨b1, o1, rfl, x1, x2⟩ := HX.out k hlt
      have hlt2 : (k : Int) < (l.length : Int) := by omega
      generalize l[k] = p at *
      have hne : (p != p) = false := by simp
      go_wp2_with fail
      go_quiet (fail)
      go_wp2_with fail
      go_roundw
      case rel => exact ⟨k + 1, by omega, by go_num, _, rfl⟩
      case measure => simp [intOf]; omega
    · have hkn : k = l.length := by omega
      subst hkn
      have hlt2 : ¬ (l.length : Int) < (l.length : Int) := by omega
      have ca := HA.out
      have cb := HB.out
      go_wp2_with fail
      all_goals go_ret
      exact ⟨rfl, _, rfl⟩
theorem row_set {u : World} {B n cap g k : Nat} {xs : List Value} (h : u.ownsRow B 3 1 (.slice (some ⟨g, 0, none⟩) n cap) n xs) (hk : k < n) (v : Value) :
    (∃ y, u.cell? ⟨g, k, none⟩ = some y) ∧ u.frozen? ⟨g, k, none⟩ = false ∧ B ≤ g ∧ ∃ ys, (u.setCell ⟨g, k, none⟩ v).ownsRow B 3 1 (.slice (some ⟨g, 0, none⟩) n cap) n ys := by
  rcases h.2 with ⟨h1, _⟩ | ⟨g', cap', cur, h1, h2, h3, h4, h5, h6, h7⟩
  · cases h1
  · cases h1
    refine ⟨⟨cur[k]'(by omega), ?_⟩, ?_, h2, (cur.setIfInBounds k v).toList.take (n * 1), ?_, .inr ⟨g, cap, cur.setIfInBounds k v, rfl, h2, ?_, h4, h5, by simpa using h6, rfl⟩⟩
    · simp [World.cell?, h3]
    · simp [World.frozen?, h3]
    · simp; omega
    · simp [World.setCell, Array.getElem?_modify, h3]
theorem three_new (w : World) (a b c : Value) : ∀ (j : Nat) u, [a, b, c][j]? = some u → (w.alloc (.cells #[a, b, c] 3)).cell? ((⟨w.heap.size, 0, none⟩ : Addr).add j) = some u := by
  intro j u hu
  have h : (w.alloc (.cells #[a, b, c] 3)).heap[w.heap.size]? = some (.cells #[a, b, c] 3 (0, 0)) := by
    show (w.heap.push _)[w.heap.size]? = some _
    exact Array.getElem?_push_size
  rw [add_plain, Nat.zero_add]
  generalize w.alloc (.cells #[a, b, c] 3) = W at h ⊢
  simp only [World.cell?, h]
  rw [← hu]
  match j with
  | 0 => rfl
  | 1 => rfl
  | 2 => rfl
  | j + 3 => simp
theorem row_some {u : World} {B e s n m : Nat} {ao : Option Addr} {c : Nat} {xs : List Value} (h : u.ownsRow B e s (.slice ao n c) m xs) (hm : 0 < m) : ∃ g, ao = some ⟨g, 0, none⟩ := by
  rcases h.2 with ⟨h1, h0⟩ | ⟨g, cap, cur, h1, _⟩
  · omega
  · cases h1; exact ⟨g, rfl⟩
set_option maxHeartbeats 2000000 in
theorem own_scribble (P : Value) (n B : Nat) (xs : List Value) (w : World) (h : w.ownsRow B 3 1 P n xs) (hB : B ≤ w.heap.size) (hz : n ≤ 1048576) :
    Calls Tryd.prog 11 #[P] w fun e w' => e = .returned (.tuple #[]) ∧ Below B w w' := by
  obtain ⟨i0, hi, hz0, hz1, hz2⟩ := info_parts Tryd.infoIntV
  obtain ⟨po, pc, rfl⟩ := row_slice h
  have HN : Hid (0 < n → ∃ g, po = some ⟨g, 0, none⟩) := fun hn => by
    rcases h.2 with ⟨h1, h0⟩ | ⟨g, cap, cur, h1, _⟩
    · omega
    · cases h1; exact ⟨g, rfl⟩
  have HR0 : Hid (∃ ys, w.ownsRow B 3 1 (.slice po n pc) n ys) := ⟨xs, h⟩
  clear h
  go_enter Tryd.func11, Tryd.ntmps11
  go_wp2_with fail
  go_loopw [2] (fun i wr => ∃ k : Nat, k ≤ n ∧ i = .int .i64 k ∧ Hid (∃ ys, wr.ownsRow B 3 1 (.slice po n pc) n ys) ∧ Hid (Below B w wr)) (fun i _ => n - (intOf i).toNat)
  case atStart => exact ⟨0, Nat.zero_le _, rfl, HR0.out, Below.refl _ _⟩
  case round =>
    obtain ⟨k, hk, rfl, HR, HB⟩ := hrel
    by_cases hlt : k < n
    · obtain ⟨g, rfl⟩ := HN.out (by omega)
      obtain ⟨ys, hy⟩ := HR.out
      obtain ⟨⟨y, cy⟩, fy, hBg, HS⟩ := row_set hy hlt (.int .i64 (-99))
      have HS2 : Hid _ := HS
      have hlt2 : (k : Int) < (n : Int) := by omega
      clear hy HS
      go_wp2_with fail
      go_roundw
      case rel => exact ⟨k + 1, by omega, by go_num, HS2.out, HB.out.setCell hBg _⟩
      case measure => simp [intOf]; omega
    · have hlt2 : ¬ (k : Int) < (n : Int) := by omega
      obtain ⟨ys, hy⟩ := HR.out
      have HY : Hid (wr.ownsRow B 3 1 (.slice po n pc) n ys) := hy
      have HSZ : Hid (B ≤ wr.heap.size) := Nat.le_trans hB HB.out.size
      clear hy
      go_wp2_with (at_builtin; refine wpList_append_own _ rfl _ _ 22 rfl B 3 i0 (.int .i64 0) 1 8 Tryd.underlying22 hi hz0 hz1 hz2 rfl (by decide) _ _ _ rfl (World.ownsRow.alloc HY.out _) ⟨wr.heap.size, 0, none⟩ 3 3 [.int .i64 (-99), .int .i64 (-99), .int .i64 (-99)] rfl rfl (three_new _ _ _ _) (fun y hy => by simp at hy; subst hy; rfl) (by unfold maxLen; omega) (by omega) (by have := HSZ.out; simp; omega) ?_; intro v3 w3 hown3 hgrow3 hnil3; obtain ⟨qo, qc, rfl⟩ := row_slice hown3; have HB3 : Hid (Below B w w3) := (HB.out.alloc HSZ.out _).grown hgrow3 (by have := HSZ.out; simp; omega) (fun q hq => (HY.out.lt q hq).1); obtain ⟨g3, hg3⟩ := row_some hown3 (by omega); subst hg3; obtain ⟨⟨y3, cy3⟩, fy3, hBg3, _⟩ := row_set hown3 (k := 0) (by omega) (.int .i64 (-98)); clear hown3 hgrow3 hnil3)
      go_end0
      exact ⟨rfl, HB3.out.setCell hBg3 _⟩
end Go.Proofs.YtjfmhppgjhgdaabDoor
