/- What a value's copy of its own memory is; which values a panic may have. -/
import Derived.Test.YtncjaohiimenaabDoorVcame
import Derived.Test.YtncjaohiimenaabDoorSteady
namespace Go.Proofs.YtncjaohiimenaabDoor
open Go.ChangeShapes Go.WideShapes Go.ChangeAt Go.RowKit
set_option maxRecDepth 100000
set_option linter.unusedSimpArgs false
set_option linter.unusedVariables false

theorem Tryd.infoIntV : (Tryd.prog.info? 3).map (fun i => (i.zero, i.size, i.bytes)) = some (some (.int .i64 0), 1, 8) := by kernel_rfl
/-- A copy of numbers: append to nothing. -/
theorem icopy {w : World} {v : Value} {l : List Int} {ops : Array Oper} {rest : List Oper} {o : Oper} {a : Act} {Q : Exit → Act → World → Prop} (hgd : o.guard = none) (s x : Operand)
    (ho : o.op = .call { callee := .builtin .append, args := #[s, x], argTypes := #[23, 23] }) (hs : a.eval s = .slice none 0 0) (hx : a.eval x = v)
    (hC : ILies w v l) (hN : l.length * 8 ≤ 140737488351232) (B : Nat) (hB : B ≤ w.heap.size)
    (h : ∀ v' w', w'.ownsRow B 3 1 v' l.length (l.map (Value.int .i64)) → Below w.heap.size w w' → wpList Tryd.prog ops Q rest (a.put o.dst v') w') : wpList Tryd.prog ops Q (o :: rest) a w := by
  obtain ⟨i0, hi, hz0, hz1, hz2⟩ := info_parts Tryd.infoIntV
  rcases hC with ⟨rfl, rfl⟩ | ⟨ad, cap, rfl, h2, h2', h3, h4⟩
  · refine wpList_append_own_none hgd s x 23 ho B 3 i0 1 Tryd.underlying23 hi (.slice none 0 0) 0 [] hs (World.ownsRow_nil _ _ _ _) hx (h _ _ (World.ownsRow_nil _ _ _ _) (Below.refl _ _))
  · refine wpList_append_own _ hgd s x 23 ho B 3 i0 _ 1 8 Tryd.underlying23 hi hz0 hz1 hz2 rfl (by decide) (.slice none 0 0) 0 [] hs (World.ownsRow_nil _ _ _ _) ad l.length cap (l.map (Value.int .i64)) hx (by simp) (fun j u hu => ?_) (fun u hu => ?_) ?_ ?_ hB ?_
    · rw [List.getElem?_map] at hu
      cases hk : l[j]? with
      | none => rw [hk] at hu; cases hu
      | some i => rw [hk] at hu; cases hu; exact h4 j i hk
    · obtain ⟨i, _, rfl⟩ := List.mem_map.1 hu; rfl
    · unfold maxLen; omega
    · omega
    · intro v' w' hown hgrow _
      rw [Nat.zero_add, List.nil_append] at hown
      exact h v' w' hown ((Below.refl _ _).grown hgrow (Nat.le_refl _) (fun q hq => by cases hq))
theorem bcell {W w1 : World} (hb : Below W.heap.size W w1) : (∀ b o, b < W.heap.size → w1.cell? ⟨b, o, none⟩ = W.cell? ⟨b, o, none⟩) ∧ (∀ b o, b < W.heap.size → w1.frozen? ⟨b, o, none⟩ = W.frozen? ⟨b, o, none⟩) :=
  ⟨fun b o h => hb.cell (p := ⟨b, o, none⟩) h, fun b o h => hb.frozen (p := ⟨b, o, none⟩) h⟩
theorem row_slice {w : World} {B e s : Nat} {v : Value} {n : Nat} {xs : List Value} (h : w.ownsRow B e s v n xs) : ∃ ao cap, v = .slice ao n cap := by
  rcases h.2 with ⟨hv, h0⟩ | ⟨g, cap, cur, hv, _⟩
  · subst h0; exact ⟨none, 0, hv⟩
  · exact ⟨_, _, hv⟩
theorem box4 {w : World} {b : Nat} {c0 c1 c2 c3 : Value} {t : TypeId} (h : w.heap[b]? = some (.cells #[c0, c1, c2, c3] t (0, 0))) :
    (w.cell? ⟨b, 0, none⟩ = some c0 ∧ w.cell? ⟨b, 1, none⟩ = some c1 ∧ w.cell? ⟨b, 2, none⟩ = some c2 ∧ w.cell? ⟨b, 3, none⟩ = some c3) ∧ w.frozen? ⟨b, 0, none⟩ = false ∧ w.frozen? ⟨b, 1, none⟩ = false ∧ w.frozen? ⟨b, 2, none⟩ = false ∧ w.frozen? ⟨b, 3, none⟩ = false := by
  simp [World.cell?, World.frozen?, h]
theorem two_boxes {w w1 : World} {o1 o2 : Obj} (hb : Below ((w.alloc o1).alloc o2).heap.size ((w.alloc o1).alloc o2) w1) : w1.heap[w.heap.size]? = some o1 ∧ w1.heap[w.heap.size + 1]? = some o2 ∧ w.heap.size + 1 < w1.heap.size ∧ Below w.heap.size w w1 := by
  have hs := hb.size
  simp at hs
  refine ⟨?_, ?_, by omega, ?_⟩
  · rw [hb.block _ (by simp; omega)]; show ((w.heap.push o1).push o2)[w.heap.size]? = some o1; rw [Array.getElem?_push_lt (by simp), Array.getElem_push_eq]
  · rw [hb.block _ (by simp)]; show ((w.heap.push o1).push o2)[w.heap.size + 1]? = some o2; have e : (w.heap.push o1).size = w.heap.size + 1 := by simp
    rw [← e, Array.getElem?_push_size]
  · exact (((Below.refl _ _).alloc (Nat.le_refl _) _).alloc (by simp) _).trans (hb.mono (by simp; omega))
/-- A value of its own memory. -/
theorem own_own (x : Vv) (L : Value) (w : World) (hi : VIn x) (hm : ILies w L x.l) :
    Calls Tryd.prog 6 #[vval x L] w fun e w' => ∃ L', e = .returned (vval x L') ∧ ILies w' L' x.l ∧ Below w.heap.size w w' := by
  have HC : Hid (∀ o1 o2, ILies ((w.alloc o1).alloc o2) L x.l) := fun o1 o2 => hm.below (((Below.refl _ _).alloc (Nat.le_refl _) _).alloc (by simp) _) (Nat.le_refl _)
  have HN : Hid (x.l.length * 8 ≤ 140737488351232) := hi.sz
  unfold vval
  go_enter Tryd.func6, Tryd.ntmps6
  go_wp2_with (at_builtin; refine icopy rfl _ _ rfl rfl rfl (HC.out _ _) HN.out (w.heap.size + 2) (by simp) ?_; intro v' w1 hown hb1; obtain ⟨ao, cap, rfl⟩ := row_slice hown; have HO : Hid (w1.ownsRow (w.heap.size + 2) 3 1 (.slice ao x.l.length cap) x.l.length (x.l.map (Value.int .i64))) := hown; clear hown; obtain ⟨hh1, hh2, hz, hb2⟩ := two_boxes hb1; obtain ⟨⟨c0, c1, c2, c3⟩, f0, f1, f2, f3⟩ := box4 hh1; obtain ⟨⟨d0, d1, d2, d3⟩, g0, g1, g2, g3⟩ := box4 hh2; have HB : Hid _ := hb2; clear hb1 hb2 hh1 hh2)
  refine bodyPost_ret (v := vval x (.slice ao x.l.length cap)) (by simp [vval, results, Tryd.results6, go_sem, c0, c1, c2, c3, d0, d1, d2, d3]) rfl ⟨_, rfl, ?_, ?_⟩
  · refine ILies.row (B := w.heap.size + 2) ?_
    exact ownsRow_setCell_below (ownsRow_setCell_below (ownsRow_setCell_below (ownsRow_setCell_below (ownsRow_setCell_below HO.out (by simp) _) (by simp) _) (by simp) _) (by simp) _) (by simp) _
  · exact ((((HB.out.setCell (Nat.le_refl _) _).setCell (by simp) _).setCell (by simp) _).setCell (by simp) _).setCell (by simp) _
/-- May a panic have it? -/
def mayV (x : Vv) : Bool := decide (x.kind = 1) || decide (x.kind = 3) || decide (x.kind = 5)
/-- A value somewhere in memory. -/
def isVal (x : Vv) : Value → World → Prop := fun v w => ∃ L, v = vval x L ∧ ILies w L x.l
theorem stab_val (x : Vv) : Stab (isVal x) := fun v w w' hb ⟨L, e, h⟩ => ⟨L, e, h.below hb (Nat.le_refl _)⟩
theorem below_up {w u : World} {o : Obj} (hb : Below (w.alloc o).heap.size (w.alloc o) u) : Below w.heap.size w u := ((Below.refl _ _).alloc (Nat.le_refl _) _).trans (hb.mono (by simp))
/-- What a box holds stays. -/
theorem box_stays {w u : World} {o : Obj} (hb : Below (w.alloc o).heap.size (w.alloc o) u) : u.heap[w.heap.size]? = some o := by
  rw [hb.block _ (by simp)]; show (w.heap.push o)[w.heap.size]? = some o; exact Array.getElem?_push_size
end Go.Proofs.YtncjaohiimenaabDoor
