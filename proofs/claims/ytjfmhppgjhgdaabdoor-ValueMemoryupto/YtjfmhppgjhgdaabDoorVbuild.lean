/- A list of values that is built one by one. -/
import Derived.Test.YtjfmhppgjhgdaabDoorVline
import Derived.Maps.AppendAt
namespace Go.Proofs.YtjfmhppgjhgdaabDoor
open Go.ChangeShapes Go.WideShapes Go.ChangeAt Go.RowKit
set_option maxRecDepth 100000
set_option linter.unusedSimpArgs false
set_option linter.unusedVariables false

/-- New memory. -/
def Fresh (B : Nat) (L : Value) : Prop := ∀ a n c, L = .slice (some a) n c → B ≤ a.block
theorem fresh_row {w : World} {B e s n : Nat} {v : Value} {xs : List Value} (h : w.ownsRow (B + 2) e s v n xs) : Fresh B v := by
  intro a m c hv
  rcases h.2 with ⟨h1, _⟩ | ⟨g, cap, cur, h1, h2, _⟩
  · rw [h1] at hv; cases hv
  · rw [h1] at hv; cases hv; simp only; omega
/-- A value of its own memory. -/
theorem own_own2 (x : Vv) (L : Value) (w : World) (hi : VIn x) (hm : ILies w L x.l) :
    Calls Tryd.prog 14 #[vval x L] w fun e w' => ∃ L', e = .returned (vval x L') ∧ ILies w' L' x.l ∧ Fresh w.heap.size L' ∧ Below w.heap.size w w' := by
  have HC : Hid (∀ o1 o2, ILies ((w.alloc o1).alloc o2) L x.l) := fun o1 o2 => hm.below (((Below.refl _ _).alloc (Nat.le_refl _) _).alloc (by simp) _) (Nat.le_refl _)
  have HN : Hid (x.l.length * 8 ≤ 140737488351232) := hi.sz
  unfold vval
  go_enter Tryd.func14, Tryd.ntmps14
  go_wp2_with (at_builtin; refine icopy rfl _ _ rfl rfl rfl (HC.out _ _) HN.out (w.heap.size + 2) (by simp) ?_; intro v' w1 hown hb1; obtain ⟨ao, cap, rfl⟩ := row_slice hown; have HO : Hid (w1.ownsRow (w.heap.size + 2) 3 1 (.slice ao x.l.length cap) x.l.length (x.l.map (Value.int .i64))) := hown; clear hown; obtain ⟨hh1, hh2, hz, hb2⟩ := two_boxes hb1; obtain ⟨⟨c0, c1, c2, c3⟩, f0, f1, f2, f3⟩ := box4 hh1; obtain ⟨⟨d0, d1, d2, d3⟩, g0, g1, g2, g3⟩ := box4 hh2; have HB : Hid _ := hb2; clear hb1 hb2 hh1 hh2)
  refine bodyPost_ret (v := vval x (.slice ao x.l.length cap)) (by simp [vval, results, Tryd.results14, go_sem, c0, c1, c2, c3, d0, d1, d2, d3]) rfl ⟨_, rfl, ?_, fresh_row HO.out, ?_⟩
  · refine ILies.row (B := w.heap.size + 2) ?_
    exact ownsRow_setCell_below (ownsRow_setCell_below (ownsRow_setCell_below (ownsRow_setCell_below (ownsRow_setCell_below HO.out (by simp) _) (by simp) _) (by simp) _) (by simp) _) (by simp) _
  · exact ((((HB.out.setCell (Nat.le_refl _) _).setCell (by simp) _).setCell (by simp) _).setCell (by simp) _).setCell (by simp) _
theorem Tryd.infoValV : (Tryd.prog.info? 24).map (fun i => (i.zero, i.size, i.bytes)) = some (some (.agg #[.int .i64 0, .int .i64 0, .string ⟨#[]⟩, .slice none 0 0]), 4, 56) := by kernel_rfl
def ecells (es : List Ve) : List Value := es.flatMap Ve.cells
theorem ecells_len (es : List Ve) : (ecells es).length = es.length * 4 := by
  induction es with
  | nil => rfl
  | cons t r ih => simp only [ecells, List.flatMap_cons, List.length_append, List.length_cons] at ih ⊢; rw [ih]; simp [Ve.cells]; omega
theorem ecells_get : ∀ (es : List Ve) (k i : Nat) (t : Ve), i < 4 → es[k]? = some t → (ecells es)[k * 4 + i]? = t.cells[i]?
  | [], k, i, t, _, h => by simp at h
  | x :: r, 0, i, t, hi, h => by
    simp at h
    subst h
    rw [ecells, List.flatMap_cons, List.getElem?_append_left (by simp [Ve.cells]; omega)]
    simp
  | x :: r, k + 1, i, t, hi, h => by
    have := ecells_get r k i t hi (by simpa using h)
    rw [ecells, List.flatMap_cons, List.getElem?_append_right (by simp [Ve.cells]; omega)]
    rw [← this, show (k + 1) * 4 + i - x.cells.length = k * 4 + i by simp [Ve.cells]; omega]
    rfl
theorem vs_row {w : World} {v : Value} {es : List Ve} {B : Nat} (h : w.ownsRow B 24 4 v es.length (ecells es)) : VsLies w v es := by
  rcases h.2 with ⟨hv, h0⟩ | ⟨g, cap, cur, hv, -, -, hcap, -⟩
  · have : es = [] := List.eq_nil_of_length_eq_zero h0
    subst this
    exact .inl ⟨hv, rfl⟩
  · refine .inr ⟨⟨g, 0, none⟩, cap, hv, hcap, fun _ => rfl, fun k e hk j u hu => ?_⟩
    have hkl := (List.getElem?_eq_some_iff.1 hk).1
    have hj := (List.getElem?_eq_some_iff.1 hu).1
    have hj4 : j < 4 := by simpa [Ve.cells] using hj
    subst hv
    rw [add_plain, Nat.zero_add, h.cellAt (k * 4 + j) (by omega), ecells_get es k j e hj4 hk]
    exact hu
theorem ilies_grown {w w' : World} {row : Option Nat} {L : Value} {l : List Int} (hg : w.grownBy w' row) (h : ILies w L l) (hk : l ≠ [] → ∀ a n c, L = .slice (some a) n c → row ≠ some a.block) : ILies w' L l := by
  rcases h with h | ⟨a, cap, h1, h2, h2', h3, h4⟩
  · exact .inl h
  · refine .inr ⟨a, cap, h1, h2, h2', h3, fun k i hi => ?_⟩
    have h0 := h4 k i hi
    have hne : l ≠ [] := by rintro rfl; simp at hi
    have hb := World.block_lt_of_cell? _ _ h0
    have hblk : (a.add k).block = a.block := by unfold Addr.add; split <;> rfl
    rw [hblk] at hb
    have := hg.block a.block hb (fun e => hk hne a _ _ h1 e.symm)
    rw [World.cell?_of_block (w := w) (by rw [hblk]; exact this)]
    exact h0
/-- While it is built: the values so far, each with a list of its own, the row itself apart from them. -/
structure Bld (B : Nat) (es : List Ve) (k : Nat) (v : Value) (ms : List Ve) (u : World) : Prop where
  len : ms.length = k
  xs : ms.map (·.x) = (es.take k).map (·.x)
  row : u.ownsRow B 24 4 v k (ecells ms)
  lies : ∀ e ∈ ms, ILies u e.L e.x.l ∧ (e.x.l ≠ [] → ∀ a n c, e.L = .slice (some a) n c → v.ownBlock ≠ some a.block)
theorem Bld.below {B : Nat} {es : List Ve} {k : Nat} {v : Value} {ms : List Ve} {u u' : World} (h : Bld B es k v ms u) (hb : Below u.heap.size u u') : Bld B es k v ms u' := by
  refine ⟨h.len, h.xs, ?_, fun e he => ⟨(h.lies e he).1.below hb (Nat.le_refl _), (h.lies e he).2⟩⟩
  refine ⟨h.row.1, ?_⟩
  rcases h.row.2 with h0 | ⟨g, cap, cur, h1, h2, h3, h4⟩
  · exact .inl h0
  · exact .inr ⟨g, cap, cur, h1, h2, by rw [hb.block g (Array.getElem?_eq_some_iff.1 h3).1]; exact h3, h4⟩
theorem lies_block {w : World} {a : Addr} {n c : Nat} {l : List Int} (h : ILies w (.slice (some a) n c) l) (hne : l ≠ []) : a.block < w.heap.size := by
  rcases h with ⟨h, _⟩ | ⟨a', cap, h1, h2, h2', h3, h4⟩
  · cases h
  · cases h1
    obtain ⟨i, hi⟩ : ∃ i, l[0]? = some i := by
      cases l with
      | nil => exact absurd rfl hne
      | cons i r => exact ⟨i, rfl⟩
    have := World.block_lt_of_cell? _ _ (h4 0 i hi)
    simpa [Addr.add] using this
/-- One more. -/
theorem Bld.push {B : Nat} {es : List Ve} {k : Nat} {v v' : Value} {ms : List Ve} {u u' : World} {L : Value} (h : Bld B es k v ms u) (hk : k < es.length) (hrow : u'.ownsRow B 24 4 v' (k + 1) (ecells ms ++ Ve.cells ⟨es[k].x, L⟩)) (hg : u.grownBy u' v.ownBlock)
    (hat : v'.ownBlock = v.ownBlock ∨ v'.ownBlock = some u.heap.size) (hl : ILies u L es[k].x.l) (ha : es[k].x.l ≠ [] → ∀ a n c, L = .slice (some a) n c → v.ownBlock ≠ some a.block) : Bld B es (k + 1) v' (ms ++ [⟨es[k].x, L⟩]) u' := by
  have new : ∀ (L : Value) (l : List Int), ILies u L l → (l ≠ [] → ∀ a n c, L = .slice (some a) n c → v.ownBlock ≠ some a.block) → l ≠ [] → ∀ a n c, L = .slice (some a) n c → v'.ownBlock ≠ some a.block := by
    intro L l h1 h2 h3 a n c h4 h5
    rcases hat with h6 | h6
    · exact h2 h3 a n c h4 (h6 ▸ h5)
    · rw [h6] at h5
      subst h4
      have := lies_block h1 h3
      have h7 : u.heap.size = a.block := by simpa using h5
      omega
  refine ⟨by simp [h.len], ?_, ?_, fun e he => ?_⟩
  · rw [List.map_append, h.xs, List.take_succ_eq_append_getElem hk, List.map_append]
    rfl
  · rw [show ecells (ms ++ [⟨es[k].x, L⟩]) = ecells ms ++ Ve.cells ⟨es[k].x, L⟩ by simp [ecells]]
    exact hrow
  · rcases List.mem_append.1 he with h1 | h1
    · obtain ⟨h2, h3⟩ := h.lies e h1
      exact ⟨ilies_grown hg h2 h3, new _ _ h2 h3⟩
    · simp at h1
      subst h1
      exact ⟨ilies_grown hg hl ha, new _ _ hl ha⟩
theorem Bld.done {B : Nat} {es : List Ve} {v : Value} {ms : List Ve} {u w : World} (h : Bld B es es.length v ms u) (he : EsIn w es) : VsLies u v ms ∧ EsIn u ms ∧ lineB ms = lineB es := by
  have hx : ms.map (·.x) = es.map (·.x) := by rw [h.xs, List.take_length]
  have hlen : ms.length = es.length := h.len
  refine ⟨vs_row (by rw [hlen]; exact h.row), ⟨fun e hm => ?_, by rw [hlen]; exact he.size⟩, ?_⟩
  · have : e.x ∈ es.map (·.x) := by rw [← hx]; exact List.mem_map.2 ⟨e, hm, rfl⟩
    obtain ⟨e', h1, h2⟩ := List.mem_map.1 this
    obtain ⟨a1, a2, a3, a4⟩ := he.each e' h1
    rw [h2] at a1 a3 a4
    exact ⟨a1, (h.lies e hm).1, a3, a4⟩
  · have : shown ms = shown es := by
      unfold shown
      rw [show (fun e : Ve => showV e.x) = showV ∘ Ve.x from rfl, ← List.map_map, ← List.map_map, hx]
    unfold lineB joinedV
    rw [this]
theorem cells_new {w : World} {x : Vv} {L : Value} : ∀ (j : Nat) u, (Ve.cells ⟨x, L⟩)[j]? = some u → (w.alloc (.cells #[.int .i64 x.kind, .int .i64 x.n, .string x.s, L] 24)).cell? ((⟨w.heap.size, 0, none⟩ : Addr).add j) = some u := by
  intro j u hu
  have h : (w.alloc (.cells #[.int .i64 x.kind, .int .i64 x.n, .string x.s, L] 24)).heap[w.heap.size]? = some (.cells #[.int .i64 x.kind, .int .i64 x.n, .string x.s, L] 24 (0, 0)) := by
    show (w.heap.push _)[w.heap.size]? = some _
    exact Array.getElem?_push_size
  rw [add_plain, Nat.zero_add]
  generalize w.alloc (.cells #[.int .i64 x.kind, .int .i64 x.n, .string x.s, L] 24) = W at h ⊢
  simp only [World.cell?, h]
  rw [← hu]
  match j with
  | 0 => rfl
  | 1 => rfl
  | 2 => rfl
  | 3 => rfl
  | j + 4 => simp [Ve.cells]
theorem cells_one {x : Vv} {ao : Option Addr} {n c : Nat} : ∀ u ∈ Ve.cells ⟨x, .slice ao n c⟩, u.oneCell' = true := by
  intro u hu
  simp [Ve.cells] at hu
  rcases hu with rfl | rfl | rfl | rfl <;> rfl
end Go.Proofs.YtjfmhppgjhgdaabDoor
