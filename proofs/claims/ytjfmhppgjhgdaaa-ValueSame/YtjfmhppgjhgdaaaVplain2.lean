/- The reference's plain value. -/
import Derived.Test.YtjfmhppgjhgdaaaVused
namespace Go.Proofs.Ytjfmhppgjhgdaaa
open Go.ChangeShapes Go.WideShapes Go.ChangeAt Go.RowKit
set_option maxRecDepth 100000
set_option linter.unusedSimpArgs false
set_option linter.unusedVariables false

theorem below3 (w : World) (o1 o2 o3 : Obj) : Below w.heap.size w (((w.alloc o1).alloc o2).alloc o3) := (below2 w o1 o2).alloc (by simp <;> omega) _
theorem three_boxes {w w1 : World} {o1 o2 o3 : Obj} (hb : Below (((w.alloc o1).alloc o2).alloc o3).heap.size (((w.alloc o1).alloc o2).alloc o3) w1) : w1.heap[w.heap.size]? = some o1 ∧ w1.heap[w.heap.size + 1]? = some o2 ∧ w1.heap[w.heap.size + 2]? = some o3 ∧ w.heap.size + 2 < w1.heap.size ∧ Below w.heap.size w w1 := by
  have hs := hb.size
  simp at hs
  refine ⟨?_, ?_, ?_, by omega, ?_⟩
  · rw [hb.block _ (by simp <;> omega)]; show (((w.heap.push o1).push o2).push o3)[w.heap.size]? = some o1; rw [Array.getElem?_push_lt (by simp <;> omega), Array.getElem_push_lt (by simp), Array.getElem_push_eq]
  · rw [hb.block _ (by simp <;> omega)]; show (((w.heap.push o1).push o2).push o3)[w.heap.size + 1]? = some o2; have e : (w.heap.push o1).size = w.heap.size + 1 := by simp
    rw [Array.getElem?_push_lt (by simp)]
    congr 1
    simp only [← e]
    rw [Array.getElem_push_eq]
  · rw [hb.block _ (by simp)]; show (((w.heap.push o1).push o2).push o3)[w.heap.size + 2]? = some o3; have e : ((w.heap.push o1).push o2).size = w.heap.size + 2 := by simp
    rw [← e, Array.getElem?_push_size]
  · exact (below3 w o1 o2 o3).trans (hb.mono (by simp <;> omega))
set_option maxHeartbeats 8000000 in
theorem ref_plain (x : Vv) (L : Value) (w : World) (hi : VIn x) (hm : ILies w L x.l) :
    Calls Try.prog 10 #[vval x L] w fun e w' => ∃ L', e = .returned (vval (plainV x) L') ∧ ILies w' L' (plainV x).l ∧ Below w.heap.size w w' := by
  have HC : Hid (∀ o1 o2 o3, ILies (((w.alloc o1).alloc o2).alloc o3) L x.l) := fun o1 o2 o3 => hm.below (below3 w o1 o2 o3) (Nat.le_refl _)
  have HN : Hid (x.l.length * 8 ≤ 140737488351232) := hi.sz
  obtain ⟨ao0, cap0, hL⟩ := hm.shape
  subst hL
  clear hi hm
  obtain ⟨k, n, s, l⟩ := x
  by_cases h1 : k = 1
  · subst h1
    have e : plainV ⟨1, n, s, l⟩ = ⟨1, n, ⟨#[]⟩, []⟩ := by simp [plainV]
    rw [e]
    clear e
    simp only [vval]
    go_enter Try.func10, Try.ntmps10
    go_wp2_with fail
    exact bodyPost_ret (v := vval ⟨1, n, ⟨#[]⟩, []⟩ (.slice none 0 0)) (by simp [vval, results, Try.results10, go_sem]) rfl ⟨_, rfl, .inl ⟨rfl, rfl⟩, below3 _ _ _ _⟩
  by_cases h7 : k = 7
  · subst h7
    clear h1
    have e : plainV ⟨7, n, s, l⟩ = ⟨7, n, ⟨#[]⟩, []⟩ := by simp [plainV]
    rw [e]
    clear e
    simp only [vval]
    go_enter Try.func10, Try.ntmps10
    go_wp2_with fail
    exact bodyPost_ret (v := vval ⟨7, n, ⟨#[]⟩, []⟩ (.slice none 0 0)) (by simp [vval, results, Try.results10, go_sem]) rfl ⟨_, rfl, .inl ⟨rfl, rfl⟩, below3 _ _ _ _⟩
  by_cases h8 : k = 8
  · subst h8
    clear h1 h7
    have e : plainV ⟨8, n, s, l⟩ = ⟨8, n, ⟨#[]⟩, []⟩ := by simp [plainV]
    rw [e]
    clear e
    simp only [vval]
    go_enter Try.func10, Try.ntmps10
    go_wp2_with fail
    exact bodyPost_ret (v := vval ⟨8, n, ⟨#[]⟩, []⟩ (.slice none 0 0)) (by simp [vval, results, Try.results10, go_sem]) rfl ⟨_, rfl, .inl ⟨rfl, rfl⟩, below3 _ _ _ _⟩
  by_cases h2 : k = 2
  · subst h2
    clear h1 h7 h8
    by_cases hn : n = 0
    · have e : plainV ⟨2, n, s, l⟩ = ⟨2, 0, ⟨#[]⟩, []⟩ := by simp [plainV, hn]
      rw [e]
      clear e
      simp only [vval]
      go_enter Try.func10, Try.ntmps10
      go_wp2_with fail
      exact bodyPost_ret (v := vval ⟨2, 0, ⟨#[]⟩, []⟩ (.slice none 0 0)) (by simp [vval, results, Try.results10, go_sem]) rfl ⟨_, rfl, .inl ⟨rfl, rfl⟩, below3 _ _ _ _⟩
    · have e : plainV ⟨2, n, s, l⟩ = ⟨2, 1, ⟨#[]⟩, []⟩ := by simp [plainV, hn]
      rw [e]
      clear e
      simp only [vval]
      go_enter Try.func10, Try.ntmps10
      go_wp2_with fail
      exact bodyPost_ret (v := vval ⟨2, 1, ⟨#[]⟩, []⟩ (.slice none 0 0)) (by simp [vval, results, Try.results10, go_sem]) rfl ⟨_, rfl, .inl ⟨rfl, rfl⟩, below3 _ _ _ _⟩
  by_cases h3 : k = 3
  · subst h3
    clear h1 h7 h8 h2
    have e : plainV ⟨3, n, s, l⟩ = ⟨3, 0, s, []⟩ := by simp [plainV]
    rw [e]
    clear e
    simp only [vval]
    go_enter Try.func10, Try.ntmps10
    go_wp2_with fail
    exact bodyPost_ret (v := vval ⟨3, 0, s, []⟩ (.slice none 0 0)) (by simp [vval, results, Try.results10, go_sem]) rfl ⟨_, rfl, .inl ⟨rfl, rfl⟩, below3 _ _ _ _⟩
  by_cases h5 : k = 5
  · subst h5
    clear h1 h7 h8 h2 h3
    have e : plainV ⟨5, n, s, l⟩ = ⟨5, 0, s, []⟩ := by simp [plainV]
    rw [e]
    clear e
    simp only [vval]
    go_enter Try.func10, Try.ntmps10
    go_wp2_with fail
    exact bodyPost_ret (v := vval ⟨5, 0, s, []⟩ (.slice none 0 0)) (by simp [vval, results, Try.results10, go_sem]) rfl ⟨_, rfl, .inl ⟨rfl, rfl⟩, below3 _ _ _ _⟩
  by_cases h4 : k = 4
  · subst h4
    clear h1 h7 h8 h2 h3 h5
    have e : plainV ⟨4, n, s, l⟩ = ⟨4, 0, ⟨#[]⟩, []⟩ := by simp [plainV]
    rw [e]
    clear e
    simp only [vval]
    go_enter Try.func10, Try.ntmps10
    go_wp2_with fail
    exact bodyPost_ret (v := vval ⟨4, 0, ⟨#[]⟩, []⟩ (.slice none 0 0)) (by simp [vval, results, Try.results10, go_sem]) rfl ⟨_, rfl, .inl ⟨rfl, rfl⟩, below3 _ _ _ _⟩
  by_cases h6 : k = 6
  · subst h6
    clear h1 h7 h8 h2 h3 h5 h4
    have e : plainV ⟨6, n, s, l⟩ = ⟨6, 0, ⟨#[]⟩, l⟩ := by simp [plainV]
    rw [e]
    clear e
    simp only [vval]
    go_enter Try.func10, Try.ntmps10
    go_wp2_with (at_builtin; refine icopy rfl _ _ rfl rfl rfl (HC.out _ _ _) HN.out (w.heap.size + 3) (by simp) ?_; intro v' w1 hown hb1; obtain ⟨ao, cap, rfl⟩ := row_slice hown; have HO : Hid (w1.ownsRow (w.heap.size + 3) 3 1 (.slice ao l.length cap) l.length (l.map (Value.int .i64))) := hown; clear hown; obtain ⟨hh1, hh2, hh3, hz, hb2⟩ := three_boxes hb1; obtain ⟨⟨c0, c1, c2, c3⟩, f0, f1, f2, f3⟩ := box4 hh3; obtain ⟨⟨d0, d1, d2, d3⟩, g0, g1, g2, g3⟩ := box4 hh2; have HB : Hid _ := hb2; clear hb1 hb2 hh1 hh2 hh3)
    refine bodyPost_ret (v := vval ⟨6, 0, ⟨#[]⟩, l⟩ (.slice ao l.length cap)) (by simp [vval, results, Try.results10, go_sem, c0, c1, c2, c3, d0, d1, d2, d3]) rfl ⟨_, rfl, ?_, ?_⟩
    · refine ILies.row (B := w.heap.size + 3) ?_
      exact ownsRow_setCell_below (ownsRow_setCell_below (ownsRow_setCell_below (ownsRow_setCell_below (ownsRow_setCell_below HO.out (by simp) _) (by simp) _) (by simp) _) (by simp) _) (by simp) _
    · exact ((((HB.out.setCell (by simp <;> omega) _).setCell (by simp <;> omega) _).setCell (by simp <;> omega) _).setCell (by simp <;> omega) _).setCell (by simp <;> omega) _
  have e : plainV ⟨k, n, s, l⟩ = ⟨0, 0, ⟨#[]⟩, []⟩ := by simp [plainV, h1, h7, h8, h2, h3, h5, h4, h6]
  rw [e]
  clear e
  simp only [vval]
  by_cases hlt : k < 0
  · clear h1 h7 h8 h2 h3 h5 h4 h6
    go_enter Try.func10, Try.ntmps10
    go_wp2_with fail
    exact bodyPost_ret (v := vval ⟨0, 0, ⟨#[]⟩, []⟩ (.slice none 0 0)) (by simp [vval, results, Try.results10, go_sem]) rfl ⟨_, rfl, .inl ⟨rfl, rfl⟩, below3 _ _ _ _⟩
  by_cases hgt : k > 8
  · clear h1 h7 h8 h2 h3 h5 h4 h6
    go_enter Try.func10, Try.ntmps10
    go_wp2_with fail
    exact bodyPost_ret (v := vval ⟨0, 0, ⟨#[]⟩, []⟩ (.slice none 0 0)) (by simp [vval, results, Try.results10, go_sem]) rfl ⟨_, rfl, .inl ⟨rfl, rfl⟩, below3 _ _ _ _⟩
  have h0 : k = 0 := by omega
  subst h0
  clear h1 h7 h8 h2 h3 h5 h4 h6 hlt hgt
  go_enter Try.func10, Try.ntmps10
  go_wp2_with fail
  exact bodyPost_ret (v := vval ⟨0, 0, ⟨#[]⟩, []⟩ (.slice none 0 0)) (by simp [vval, results, Try.results10, go_sem]) rfl ⟨_, rfl, .inl ⟨rfl, rfl⟩, below3 _ _ _ _⟩
end Go.Proofs.Ytjfmhppgjhgdaaa
