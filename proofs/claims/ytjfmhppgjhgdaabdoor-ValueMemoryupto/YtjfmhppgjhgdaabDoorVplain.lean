/- A value without what its kind does not use: a copy of it. -/
import Derived.Test.YtjfmhppgjhgdaabDoorVused
namespace Go.Proofs.YtjfmhppgjhgdaabDoor
open Go.ChangeShapes Go.WideShapes Go.ChangeAt Go.RowKit
set_option maxRecDepth 100000
set_option linter.unusedSimpArgs false
set_option linter.unusedVariables false

theorem stored4 {w1 w2 : World} {b : Nat} {c0 c1 c2 c3 d0 d1 d2 d3 : Value} (h0 : w1.cell? ⟨b, 0, none⟩ = some c0) (h1 : w1.cell? ⟨b, 1, none⟩ = some c1) (h2 : w1.cell? ⟨b, 2, none⟩ = some c2) (h3 : w1.cell? ⟨b, 3, none⟩ = some c3)
    (hf : ∀ o, w1.frozen? ⟨b, o, none⟩ = false) (hz : b < w1.heap.size)
    (hb : Below ((((w1.setCell ⟨b, 0, none⟩ d0).setCell ⟨b, 1, none⟩ d1).setCell ⟨b, 2, none⟩ d2).setCell ⟨b, 3, none⟩ d3).heap.size ((((w1.setCell ⟨b, 0, none⟩ d0).setCell ⟨b, 1, none⟩ d1).setCell ⟨b, 2, none⟩ d2).setCell ⟨b, 3, none⟩ d3) w2) :
    (w2.cell? ⟨b, 0, none⟩ = some d0 ∧ w2.cell? ⟨b, 1, none⟩ = some d1 ∧ w2.cell? ⟨b, 2, none⟩ = some d2 ∧ w2.cell? ⟨b, 3, none⟩ = some d3) ∧ (∀ o, w2.frozen? ⟨b, o, none⟩ = false) ∧ (∀ b' o, b' ≠ b → b' < w1.heap.size → w2.cell? ⟨b', o, none⟩ = w1.cell? ⟨b', o, none⟩ ∧ w2.frozen? ⟨b', o, none⟩ = w1.frozen? ⟨b', o, none⟩) ∧ w1.heap.size ≤ w2.heap.size ∧ (∀ B w, Below B w w1 → B ≤ b → Below B w w2) := by
  have hsz : ((((w1.setCell ⟨b, 0, none⟩ d0).setCell ⟨b, 1, none⟩ d1).setCell ⟨b, 2, none⟩ d2).setCell ⟨b, 3, none⟩ d3).heap.size = w1.heap.size := by simp [World.setCell]
  obtain ⟨hc, hfz⟩ := bcell hb
  rw [hsz] at hc hfz
  have hs := hb.size
  rw [hsz] at hs
  refine ⟨⟨?_, ?_, ?_, ?_⟩, ?_, ?_, hs, ?_⟩
  · rw [hc _ _ hz]; simp [go_sem, h0, h1, h2, h3]
  · rw [hc _ _ hz]; simp [go_sem, h0, h1, h2, h3]
  · rw [hc _ _ hz]; simp [go_sem, h0, h1, h2, h3]
  · rw [hc _ _ hz]; simp [go_sem, h0, h1, h2, h3]
  · intro o; rw [hfz _ _ hz]; simp [go_sem, hf]
  · intro b' o hne hlt
    rw [hc _ _ hlt, hfz _ _ hlt]
    simp [go_sem, Ne.symm hne]
  · intro B w hB hle
    exact ((((hB.setCell hle _).setCell hle _).setCell hle _).setCell hle _).trans (hb.mono (by rw [hsz]; omega))
theorem box4f {w : World} {b : Nat} {c0 c1 c2 c3 : Value} {t : TypeId} (h : w.heap[b]? = some (.cells #[c0, c1, c2, c3] t (0, 0))) : ∀ o, w.frozen? ⟨b, o, none⟩ = false := by
  intro o; simp [World.frozen?, h]
theorem plain_sized {x : Vv} (h : VIn x) : (plainV x).l.length * 8 ≤ 140737488351232 := by
  have := h.sz
  unfold plainV
  split
  · simp
  · split
    · simp
    · split
      · simp
      · split
        · simp
        · split
          · exact this
          · simp
theorem plain_lies {x : Vv} {L : Value} {w : World} (h : ILies w L x.l) : ILies w (plainL x L) (plainV x).l := by
  unfold plainV plainL
  by_cases h6 : x.kind = 6
  · simp [h6]; exact h
  · rw [if_neg h6]
    have : ∀ l : List Int, l = [] → ILies w (.slice none 0 0) l := fun l hl => .inl ⟨rfl, hl⟩
    apply this
    simp only [if_neg h6]
    split
    · rfl
    · split
      · rfl
      · split
        · rfl
        · split <;> rfl
set_option maxHeartbeats 2000000 in
theorem own_plain (x : Vv) (L : Value) (w : World) (hi : VIn x) (hm : ILies w L x.l) :
    Calls Tryd.prog 8 #[vval x L] w fun e w' => ∃ L', e = .returned (vval (plainV x) L') ∧ ILies w' L' (plainV x).l ∧ Below w.heap.size w w' := by
  have HU : Hid (∀ u, Calls Tryd.prog 17 #[vval x L] u fun e w' => e = .returned (vval (plainV x) (plainL x L)) ∧ Below u.heap.size u w') := fun u => own_used x L u (by obtain ⟨ao, cap, h⟩ := hm.shape; exact ⟨ao, _, cap, h⟩)
  have HN : Hid ((plainV x).l.length * 8 ≤ 140737488351232) := plain_sized hi
  have HM : Hid (∀ u, Below w.heap.size w u → ILies u (plainL x L) (plainV x).l) := fun u h => (plain_lies hm).below h (Nat.le_refl _)
  obtain ⟨mo, mc, hM⟩ := (plain_lies hm).shape
  rw [hM] at HU HM
  clear hM
  generalize plainV x = y at *
  unfold vval at *
  go_enter Tryd.func8, Tryd.ntmps8
  go_wp2_with fail
  refine (HU.out _).mono ?_
  rintro e w1 ⟨rfl, hb1⟩
  obtain ⟨hh1, hh2, hz, hb2⟩ := two_boxes hb1
  have HF1 : Hid _ := box4f hh1
  have HF2 : Hid _ := box4f hh2
  obtain ⟨⟨c0, c1, c2, c3⟩, f0, f1, f2, f3⟩ := box4 hh1
  obtain ⟨⟨d0, d1, d2, d3⟩, g0, g1, g2, g3⟩ := box4 hh2
  have HB : Hid _ := hb2
  clear hb1 hb2 hh1 hh2
  go_wp2_with (at_builtin; refine icopy rfl _ _ rfl rfl rfl (HM.out _ ((((HB.out.setCell (Nat.le_refl _) _).setCell (Nat.le_refl _) _).setCell (Nat.le_refl _) _).setCell (Nat.le_refl _) _)) HN.out (w.heap.size + 2) (by simp; omega) ?_; intro v' w2 hown hb3; obtain ⟨ao, cap, rfl⟩ := row_slice hown; have HO : Hid (w2.ownsRow (w.heap.size + 2) 3 1 (.slice ao y.l.length cap) y.l.length (y.l.map (Value.int .i64))) := hown; clear hown; obtain ⟨⟨k0, k1, k2, k3⟩, kf, kc, ks, kb⟩ := stored4 c0 c1 c2 c3 HF1.out (by omega) hb3; have HB3 : Hid _ := kb _ _ HB.out (Nat.le_refl _); have q0 := (kc (w.heap.size + 1) 0 (by omega) (by omega)); have q1 := (kc (w.heap.size + 1) 1 (by omega) (by omega)); have q2 := (kc (w.heap.size + 1) 2 (by omega) (by omega)); have q3 := (kc (w.heap.size + 1) 3 (by omega) (by omega)); rw [d0, g0] at q0; rw [d1, g1] at q1; rw [d2, g2] at q2; rw [d3, g3] at q3; obtain ⟨qa0, qb0⟩ := q0; obtain ⟨qa1, qb1⟩ := q1; obtain ⟨qa2, qb2⟩ := q2; obtain ⟨qa3, qb3⟩ := q3; have kf0 := kf 0; have kf1 := kf 1; have kf2 := kf 2; have kf3 := kf 3; clear hb3 kc kb kf)
  refine bodyPost_ret (v := vval y (.slice ao y.l.length cap)) (by simp [vval, results, Tryd.results8, go_sem, k0, k1, k2, k3, qa0, qa1, qa2, qa3]) rfl ⟨_, rfl, ?_, ?_⟩
  · refine ILies.row (B := w.heap.size + 2) ?_
    exact ownsRow_setCell_below (ownsRow_setCell_below (ownsRow_setCell_below (ownsRow_setCell_below (ownsRow_setCell_below HO.out (by simp) _) (by simp) _) (by simp) _) (by simp) _) (by simp) _
  · exact ((((HB3.out.setCell (Nat.le_refl _) _).setCell (by simp) _).setCell (by simp) _).setCell (by simp) _).setCell (by simp) _
end Go.Proofs.YtjfmhppgjhgdaabDoor
