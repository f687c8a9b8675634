/- Plain values that a panic may have. -/
import Derived.Test.YtcnpoldcebdhjaaQw9
namespace Go.Proofs.Ytcnpoldcebdhjaa
open Go.ChangeShapes Go.WideShapes Go.ChangeAt Go.RowKit
set_option maxRecDepth 100000
set_option linter.unusedSimpArgs false
set_option linter.unusedVariables false
def Pv.of (k n : Int) (s : ByteArray) : Pv := if k = 1 then .int n else if k = 3 then .text s else if k = 5 then .err s else .nix
def evval (k n : Int) (s : ByteArray) (lo : Option Addr) (ln lc : Nat) : Value := .agg #[.int .i64 k, .int .i64 n, .string s, .slice lo ln lc]
theorem box4 {w : World} {b : Nat} {c0 c1 c2 c3 : Value} {t : TypeId} (h : w.heap[b]? = some (.cells #[c0, c1, c2, c3] t (0, 0))) :
    (w.cell? ⟨b, 0, none⟩ = some c0 ∧ w.cell? ⟨b, 1, none⟩ = some c1 ∧ w.cell? ⟨b, 2, none⟩ = some c2 ∧ w.cell? ⟨b, 3, none⟩ = some c3) ∧ (w.frozen? ⟨b, 0, none⟩ = false ∧ w.frozen? ⟨b, 1, none⟩ = false ∧ w.frozen? ⟨b, 2, none⟩ = false ∧ w.frozen? ⟨b, 3, none⟩ = false) := by
  simp [World.cell?, World.frozen?, h]
theorem two_boxes {w w1 : World} {o1 o2 : Obj} (hb : Below ((w.alloc o1).alloc o2).heap.size ((w.alloc o1).alloc o2) w1) : w1.heap[w.heap.size]? = some o1 ∧ w1.heap[w.heap.size + 1]? = some o2 ∧ w.heap.size + 1 < w1.heap.size ∧ Below w.heap.size w w1 := by
  have hs := hb.size
  simp at hs
  refine ⟨?_, ?_, by omega, ?_⟩
  · rw [hb.block _ (by simp; omega)]; show ((w.heap.push o1).push o2)[w.heap.size]? = some o1; rw [Array.getElem?_push_lt (by simp), Array.getElem_push_eq]
  · rw [hb.block _ (by simp)]; show ((w.heap.push o1).push o2)[w.heap.size + 1]? = some o2; have e : (w.heap.push o1).size = w.heap.size + 1 := by simp
    rw [← e, Array.getElem?_push_size]
  · exact (((Below.refl _ _).alloc (Nat.le_refl _) _).alloc (by simp) _).trans (hb.mono (by simp; omega))
theorem nilcopy {w : World} {ops : Array Oper} {rest : List Oper} {o : Oper} {a : Act} {Q : Exit → Act → World → Prop} (hgd : o.guard = none) (s x : Operand)
    (ho : o.op = .call { callee := .builtin .append, args := #[s, x], argTypes := #[30, 30] }) (hs : a.eval s = .slice none 0 0) (hx : a.eval x = .slice none 0 0)
    (h : wpList Try.prog ops Q rest (a.put o.dst (.slice none 0 0)) w) : wpList Try.prog ops Q (o :: rest) a w := by
  obtain ⟨i0, hi, hz0, hz1, hz2⟩ := info_parts Try.infoIntP
  exact wpList_append_own_none hgd s x 30 ho 0 3 i0 1 Try.underlying30 hi (.slice none 0 0) 0 [] hs (World.ownsRow_nil _ _ _ _) hx h
theorem four_set {w : World} {g : Nat} {c0 c1 c2 c3 : Value} {t : TypeId} (h : w.heap[g]? = some (.cells #[c0, c1, c2, c3] t (0, 0))) (v0 v1 v2 v3 : Value) :
    ∃ u, u = ((((w.setCell ⟨g, 0, none⟩ v0).setCell ⟨g, 1, none⟩ v1).setCell ⟨g, 2, none⟩ v2).setCell ⟨g, 3, none⟩ v3) ∧ u.heap[g]? = some (.cells #[v0, v1, v2, v3] t (0, 0)) ∧ (∀ b, b ≠ g → u.heap[b]? = w.heap[b]?) ∧ (∀ B w0, Below B w0 w → B ≤ g → Below B w0 u) := by
  refine ⟨_, rfl, ?_, fun b hb => ?_, fun B w0 h1 h2 => (((h1.setCell h2 _).setCell h2 _).setCell h2 _).setCell h2 _⟩
  · rw [heap_setCell_same _ g 3 _ t v3 (heap_setCell_same _ g 2 _ t v2 (heap_setCell_same _ g 1 _ t v1 (heap_setCell_same w g 0 _ t v0 h)))]
    rfl
  · rw [heap_setCell_other _ _ _ _ (by simpa using hb), heap_setCell_other _ _ _ _ (by simpa using hb), heap_setCell_other _ _ _ _ (by simpa using hb), heap_setCell_other _ _ _ _ (by simpa using hb)]
theorem below_set {w0 w : World} {B : Nat} (h : Below B w0 w) {a : Addr} (ha : B ≤ a.block) (v : Value) : Below B w0 (w.setCell a v) := h.setCell ha v
set_option maxHeartbeats 2000000 in
theorem own_usedP (k n : Int) (s : ByteArray) (lo : Option Addr) (ln lc : Nat) (w : World) (hk : k = 0 ∨ k = 1 ∨ k = 3 ∨ k = 5) :
    Calls Try.prog 49 #[evval k n s lo ln lc] w fun e w' => e = .returned (Pv.of k n s).val ∧ Below w.heap.size w w' := by
  unfold evval Pv.of
  have hb : ∀ (o1 o2 : Obj), Below w.heap.size w ((w.alloc o1).alloc o2) := fun o1 o2 => ((Below.refl _ _).alloc (Nat.le_refl _) _).alloc (by simp) _
  have HB : Hid (∀ (o1 o2 : Obj), Below w.heap.size w ((w.alloc o1).alloc o2)) := hb
  clear hb
  rcases hk with rfl | rfl | rfl | rfl
  · go_enter Try.func49, Try.ntmps49
    go_wp2_with fail
    exact bodyPost_ret (v := .agg #[.int .i64 0, .int .i64 0, .string ⟨#[]⟩, .slice none 0 0]) (by simp [results, Try.results49, go_sem]) rfl ⟨by simp [Pv.of, Pv.val, Pv.k, Pv.n, Pv.s], HB.out _ _⟩
  · go_enter Try.func49, Try.ntmps49
    go_wp2_with fail
    exact bodyPost_ret (v := .agg #[.int .i64 1, .int .i64 n, .string ⟨#[]⟩, .slice none 0 0]) (by simp [results, Try.results49, go_sem]) rfl ⟨by simp [Pv.of, Pv.val, Pv.k, Pv.n, Pv.s], HB.out _ _⟩
  · go_enter Try.func49, Try.ntmps49
    go_wp2_with fail
    exact bodyPost_ret (v := .agg #[.int .i64 3, .int .i64 0, .string s, .slice none 0 0]) (by simp [results, Try.results49, go_sem]) rfl ⟨by simp [Pv.of, Pv.val, Pv.k, Pv.n, Pv.s], HB.out _ _⟩
  · go_enter Try.func49, Try.ntmps49
    go_wp2_with fail
    exact bodyPost_ret (v := .agg #[.int .i64 5, .int .i64 0, .string s, .slice none 0 0]) (by simp [results, Try.results49, go_sem]) rfl ⟨by simp [Pv.of, Pv.val, Pv.k, Pv.n, Pv.s], HB.out _ _⟩
set_option maxHeartbeats 2000000 in
theorem own_plainP (k n : Int) (s : ByteArray) (lo : Option Addr) (ln lc : Nat) (w : World) (hk : k = 0 ∨ k = 1 ∨ k = 3 ∨ k = 5) :
    Calls Try.prog 40 #[evval k n s lo ln lc] w fun e w' => e = .returned (Pv.of k n s).val ∧ Below w.heap.size w w' := by
  have HU : Hid (∀ u, Calls Try.prog 49 #[.agg #[.int .i64 k, .int .i64 n, .string s, .slice lo ln lc]] u fun e w' => e = .returned (Pv.of k n s).val ∧ Below u.heap.size u w') := fun u => own_usedP k n s lo ln lc u hk
  unfold evval
  generalize Pv.of k n s = v at *
  clear hk
  unfold Pv.val at *
  go_enter Try.func40, Try.ntmps40
  go_wp2_with fail
  refine (HU.out _).mono ?_
  rintro e w1 ⟨rfl, hb⟩
  obtain ⟨g1, g2, hz, hb2⟩ := two_boxes hb
  obtain ⟨⟨c0, c1, c2, c3⟩, ⟨f0, f1, f2, f3⟩⟩ := box4 g1
  obtain ⟨⟨d0, d1, d2, d3⟩, ⟨e0, e1, e2, e3⟩⟩ := box4 g2
  have HB : Hid (Below w.heap.size w w1) := hb2
  have HG1 : Hid _ := g1
  have HG2 : Hid _ := g2
  clear hb hb2 g1 g2 d0 d1 d2 d3 e0 e1 e2 e3
  go_wp2_with (at_builtin; refine nilcopy rfl _ _ rfl rfl rfl ?_; obtain ⟨u, hu, hg, ho, hbl⟩ := four_set HG1.out (.int .i64 v.k) (.int .i64 v.n) (.string v.s) (.slice none 0 0); rw [← hu]; clear hu c0 c1 c2 c3 f0 f1 f2 f3; obtain ⟨⟨c0, c1, c2, c3⟩, ⟨f0, f1, f2, f3⟩⟩ := box4 hg; have hg2 := (ho (w.heap.size + 1) (by omega)).trans HG2.out; obtain ⟨⟨d0, d1, d2, d3⟩, ⟨e0, e1, e2, e3⟩⟩ := box4 hg2; have HBU : Hid (Below w.heap.size w u) := hbl _ _ HB.out (Nat.le_refl _); clear hg hg2 ho hbl)
  exact bodyPost_ret (v := .agg #[.int .i64 v.k, .int .i64 v.n, .string v.s, .slice none 0 0]) (by simp [results, Try.results40, go_sem, c0, c1, c2, c3, d0, d1, d2, d3]) rfl ⟨rfl, ((((HBU.out.setCell (Nat.le_refl _) _).setCell (by simp) _).setCell (by simp) _).setCell (by simp) _).setCell (by simp) _⟩
theorem own_may (k n : Int) (s : ByteArray) (lo : Option Addr) (ln lc : Nat) (w : World) :
    Calls Try.prog 44 #[evval k n s lo ln lc] w fun e w' => e = .returned (.bool (decide (k = 1 ∨ k = 3 ∨ k = 5))) ∧ Below w.heap.size w w' := by
  unfold evval
  by_cases h1 : k = 1
  · subst h1
    go_enter Try.func44, Try.ntmps44
    go_wp2_with fail
    go_ret
    exact ⟨by simp, (Below.refl _ _).alloc (Nat.le_refl _) _⟩
  · have hb1 : (k == 1) = false := by simpa using h1
    by_cases h3 : k = 3
    · subst h3
      go_enter Try.func44, Try.ntmps44
      go_wp2_with fail
      go_ret
      exact ⟨by simp, (Below.refl _ _).alloc (Nat.le_refl _) _⟩
    · have hb3 : (k == 3) = false := by simpa using h3
      have HD : Hid (decide (k = 1 ∨ k = 3 ∨ k = 5) = (k == 5)) := by
        show decide (k = 1 ∨ k = 3 ∨ k = 5) = (k == 5)
        simp [h1, h3]; rfl
      clear h1 h3
      go_enter Try.func44, Try.ntmps44
      go_wp2_with fail
      go_ret
      exact ⟨by rw [HD.out]; rfl, (Below.refl _ _).alloc (Nat.le_refl _) _⟩
end Go.Proofs.Ytcnpoldcebdhjaa
