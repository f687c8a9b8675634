/- Deferred calls that came in, and lists of them. -/
import Derived.Test.YtiaoidbhdkldlabRows
import Derived.WalkKit
import Derived.ProofKit
import Derived.OpenShut
import Derived.Handy
import Derived.SizedLaws
import Derived.Carry
import Derived.Deep.Slices
import Derived.Lib.SmallJoins
import Derived.Laws.AppendOwnNone
import Derived.Maps.AppendAt
namespace Go.Proofs.Ytiaoidbhdkldlab
open Go.ChangeShapes Go.WideShapes Go.ChangeAt Go.RowKit
set_option maxRecDepth 100000
set_option linter.unusedSimpArgs false
set_option linter.unusedVariables false

theorem Try.cellsIntC : Try.prog.cellsOf 3 = 1 := by kernel_rfl
theorem Try.bytesIntC : Try.prog.bytesOf 3 = 8 := by kernel_rfl
theorem Try.cellsIntsC : Try.prog.cellsOf 23 = 1 := by kernel_rfl
theorem Try.cellsCall : Try.prog.cellsOf 25 = 3 := by kernel_rfl
theorem Try.bytesCall : Try.prog.bytesOf 25 = 40 := by kernel_rfl
theorem Try.infoIntC : (Try.prog.info? 3).map (fun i => (i.zero, i.size, i.bytes)) = some (some (.int .i64 0), 1, 8) := by kernel_rfl
theorem Try.infoCallC : (Try.prog.info? 25).map (fun i => (i.zero, i.size, i.bytes)) = some (some (.agg #[.int .i64 0, .int .i64 0, .slice none 0 0]), 3, 40) := by kernel_rfl
/-- A deferred call's parts. -/
structure Cc where
  site : Int
  fn : Int
  args : List Int
/-- A list of numbers that lies somewhere. -/
def ILies (w : World) (v : Value) (l : List Int) : Prop :=
  (v = .slice none 0 0 ∧ l = []) ∨ ∃ (a : Addr) (cap : Nat), v = .slice (some a) l.length cap ∧ l.length ≤ cap ∧ cap ≤ maxLen ∧ (l ≠ [] → a.spot = none) ∧ ∀ (k : Nat) i, l[k]? = some i → w.cell? (a.add k) = some (.int .i64 i)
theorem ILies.shape {w : World} {v : Value} {l : List Int} (h : ILies w v l) : ∃ ao cap, v = .slice ao l.length cap := by
  rcases h with ⟨h, rfl⟩ | ⟨a, cap, h, _⟩
  · exact ⟨none, 0, h⟩
  · exact ⟨_, _, h⟩
theorem ILies.below {w w' : World} {v : Value} {l : List Int} {B : Nat} (h : ILies w v l) (hb : Below B w w') (hB : w.heap.size ≤ B) : ILies w' v l := by
  rcases h with h | ⟨a, cap, h1, h2, h3, h4, h5⟩
  · exact .inl h
  · refine .inr ⟨a, cap, h1, h2, h3, h4, fun k x hk => ?_⟩
    have h0 := h5 k x hk
    rw [hb.cell (Nat.lt_of_lt_of_le (World.block_lt_of_cell? _ _ h0) hB)]
    exact h0
/-- Numbers in memory of their own, at B or above. -/
def IOwn (B : Nat) (w : World) (v : Value) (l : List Int) : Prop := w.ownsRow B 3 1 v l.length (l.map (Value.int .i64))
theorem IOwn.lies {w : World} {v : Value} {l : List Int} {B : Nat} (h : IOwn B w v l) : ILies w v l := by
  rcases h.2 with ⟨hv, h0⟩ | ⟨g, cap, cur, hv, -, -, hcap, hmax, -⟩
  · have : l = [] := List.eq_nil_of_length_eq_zero h0
    subst this
    exact .inl ⟨hv, rfl⟩
  · refine .inr ⟨⟨g, 0, none⟩, cap, hv, hcap, hmax, fun _ => rfl, fun k i hk => ?_⟩
    have hkl := (List.getElem?_eq_some_iff.1 hk).1
    subst hv
    rw [add_plain, Nat.zero_add, World.ownsRow.cellAt h k (by omega)]
    rw [List.getElem?_map, hk]; rfl
theorem IOwn.shape {w : World} {v : Value} {l : List Int} {B : Nat} (h : IOwn B w v l) : ∃ ao cap, v = .slice ao l.length cap := h.lies.shape
theorem row_at {w w' : World} {B e s n : Nat} {v : Value} {xs : List Value} (h : w.ownsRow B e s v n xs) (hk : ∀ g cs z, w.heap[g]? = some (.cells cs e z) → v.ownBlock = some g → w'.heap[g]? = w.heap[g]?) : w'.ownsRow B e s v n xs := by
  refine ⟨h.1, ?_⟩
  rcases h.2 with h0 | ⟨g, cap, cur, h1, h2, h3, h4⟩
  · exact .inl h0
  · exact .inr ⟨g, cap, cur, h1, h2, by rw [hk g _ _ h3 (by rw [h1]; rfl)]; exact h3, h4⟩
theorem row_below {w w' : World} {B e s n : Nat} {v : Value} {xs : List Value} (h : w.ownsRow B e s v n xs) (hb : Below w.heap.size w w') : w'.ownsRow B e s v n xs :=
  row_at h fun g cs z hg _ => hb.block g (Array.getElem?_eq_some_iff.1 hg).1
theorem row_up {w : World} {B B' e s n : Nat} {v : Value} {xs : List Value} (h : w.ownsRow B e s v n xs) (hB : B' ≤ B) : w.ownsRow B' e s v n xs := by
  refine ⟨h.1, ?_⟩
  rcases h.2 with h0 | ⟨g, cap, cur, h1, h2, h3⟩
  · exact .inl h0
  · exact .inr ⟨g, cap, cur, h1, Nat.le_trans hB h2, h3⟩
theorem IOwn.below {w w' : World} {v : Value} {l : List Int} {B : Nat} (h : IOwn B w v l) (hb : Below w.heap.size w w') : IOwn B w' v l := row_below h hb
theorem IOwn.up {w : World} {v : Value} {l : List Int} {B B' : Nat} (h : IOwn B w v l) (hB : B' ≤ B) : IOwn B' w v l := row_up h hB
theorem IOwn.nil (B : Nat) (w : World) : IOwn B w (.slice none 0 0) [] := World.ownsRow_nil _ _ _ _
/-- What is known of a call that came in. -/
structure CIn (x : Cc) : Prop where
  ws : (Lit.int .i64 x.site).wf = true
  wf : (Lit.int .i64 x.fn).wf = true
  wl : ∀ i ∈ x.args, (Lit.int .i64 i).wf = true
  sz : x.args.length * 8 ≤ 140737488351232
def cval (x : Cc) (L : Value) : Value := .agg #[.int .i64 x.site, .int .i64 x.fn, L]
/-- A call and where its list lies. -/
structure Ce where
  x : Cc
  L : Value
def Ce.cells (e : Ce) : List Value := [.int .i64 e.x.site, .int .i64 e.x.fn, e.L]
/-- Calls that lie in a row. -/
def CsLies (w : World) (v : Value) (es : List Ce) : Prop :=
  (v = .slice none 0 0 ∧ es = []) ∨ ∃ (a : Addr) (cap : Nat), v = .slice (some a) es.length cap ∧ es.length ≤ cap ∧ cap ≤ maxLen ∧ (es ≠ [] → a.spot = none) ∧ ∀ (k : Nat) e, es[k]? = some e → ∀ (j : Nat) u, e.cells[j]? = some u → w.cell? (a.add (k * 3 + j)) = some u
theorem CsLies.shape {w : World} {v : Value} {es : List Ce} (h : CsLies w v es) : ∃ ao cap, v = .slice ao es.length cap := by
  rcases h with ⟨h, rfl⟩ | ⟨a, cap, h, _⟩
  · exact ⟨none, 0, h⟩
  · exact ⟨_, _, h⟩
theorem CsLies.below {w w' : World} {v : Value} {es : List Ce} {B : Nat} (h : CsLies w v es) (hb : Below B w w') (hB : w.heap.size ≤ B) : CsLies w' v es := by
  rcases h with h | ⟨a, cap, h1, h2, h2', h3, h4⟩
  · exact .inl h
  · refine .inr ⟨a, cap, h1, h2, h2', h3, fun k e hk j u hu => ?_⟩
    have h0 := h4 k e hk j u hu
    rw [hb.cell (Nat.lt_of_lt_of_le (World.block_lt_of_cell? _ _ h0) hB)]
    exact h0
theorem CsLies.at {w : World} {v : Value} {es : List Ce} (h : CsLies w v es) {k : Nat} (hk : k < es.length) : ∃ b off cap, v = .slice (some ⟨b, off, none⟩) es.length cap ∧
    w.cell? ⟨b, off + k * 3, none⟩ = some (.int .i64 es[k].x.site) ∧ w.cell? ⟨b, off + k * 3 + 1, none⟩ = some (.int .i64 es[k].x.fn) ∧ w.cell? ⟨b, off + k * 3 + 2, none⟩ = some es[k].L := by
  rcases h with ⟨_, h⟩ | ⟨⟨b, off, spot⟩, cap, h1, h2, h2', h3, h4⟩
  · subst h; simp at hk
  · have := h3 (by rintro rfl; simp at hk)
    simp only at this
    subst this
    have h5 := h4 k es[k] (List.getElem?_eq_getElem hk)
    refine ⟨b, off, cap, h1, ?_, ?_, ?_⟩
    · have := h5 0 _ rfl; simpa [add_plain, Nat.add_assoc] using this
    · have := h5 1 _ rfl; simpa [add_plain, Nat.add_assoc] using this
    · have := h5 2 _ rfl; simpa [add_plain, Nat.add_assoc] using this
/-- Calls in memory, whoever's it is. -/
structure CSrc (w : World) (v : Value) (es : List Ce) (cs : List Cc) : Prop where
  row : CsLies w v es
  lies : ∀ e ∈ es, ILies w e.L e.x.args
  xs : es.map (·.x) = cs
theorem CSrc.below {w w' : World} {v : Value} {es : List Ce} {cs : List Cc} (h : CSrc w v es cs) (hb : Below w.heap.size w w') : CSrc w' v es cs :=
  ⟨h.row.below hb (Nat.le_refl _), fun e he => (h.lies e he).below hb (Nat.le_refl _), h.xs⟩
theorem CSrc.len {w : World} {v : Value} {es : List Ce} {cs : List Cc} (h : CSrc w v es cs) : es.length = cs.length := by rw [← h.xs, List.length_map]
theorem CSrc.one {w : World} {v : Value} {es : List Ce} {cs : List Cc} (h : CSrc w v es cs) {k : Nat} (hk : k < es.length) (hk2 : k < cs.length) : es[k].x = cs[k] := by
  have := h.xs
  subst this
  simp
/-- Calls that are not too many. -/
structure COk (cs : List Cc) : Prop where
  each : ∀ c ∈ cs, CIn c
  size : cs.length ≤ 3518437208800
def ccells (es : List Ce) : List Value := es.flatMap Ce.cells
theorem ccells_len (es : List Ce) : (ccells es).length = es.length * 3 := by
  induction es with
  | nil => rfl
  | cons t r ih => simp only [ccells, List.flatMap_cons, List.length_append, List.length_cons] at ih ⊢; rw [ih]; simp [Ce.cells]; omega
theorem ccells_get : ∀ (es : List Ce) (k i : Nat) (t : Ce), i < 3 → es[k]? = some t → (ccells es)[k * 3 + i]? = t.cells[i]?
  | [], k, i, t, _, h => by simp at h
  | x :: r, 0, i, t, hi, h => by
    simp at h
    subst h
    rw [ccells, List.flatMap_cons, List.getElem?_append_left (by simp [Ce.cells]; omega)]
    simp
  | x :: r, k + 1, i, t, hi, h => by
    have := ccells_get r k i t hi (by simpa using h)
    rw [ccells, List.flatMap_cons, List.getElem?_append_right (by simp [Ce.cells]; omega)]
    rw [← this, show (k + 1) * 3 + i - x.cells.length = k * 3 + i by simp [Ce.cells]; omega]
    rfl
/-- Calls in memory of their own, at B or above: the row, and each one's list. -/
structure CRow (B : Nat) (w : World) (v : Value) (ms : List Ce) (cs : List Cc) : Prop where
  row : w.ownsRow B 25 3 v ms.length (ccells ms)
  lies : ∀ e ∈ ms, IOwn B w e.L e.x.args
  xs : ms.map (·.x) = cs
theorem lies_of_row {B : Nat} {w : World} {v : Value} {ms : List Ce} (hr : w.ownsRow B 25 3 v ms.length (ccells ms)) : CsLies w v ms := by
  rcases hr.2 with ⟨hv, h0⟩ | ⟨g, cap, cur, hv, -, -, hcap, hmax, -⟩
  · have : ms = [] := List.eq_nil_of_length_eq_zero h0
    subst this
    exact .inl ⟨hv, rfl⟩
  · refine .inr ⟨⟨g, 0, none⟩, cap, hv, hcap, hmax, fun _ => rfl, fun k e hk j u hu => ?_⟩
    have hkl := (List.getElem?_eq_some_iff.1 hk).1
    have hj := (List.getElem?_eq_some_iff.1 hu).1
    have hj3 : j < 3 := by simpa [Ce.cells] using hj
    subst hv
    rw [add_plain, Nat.zero_add, hr.cellAt (k * 3 + j) (by omega), ccells_get ms k j e hj3 hk]
    exact hu
theorem CRow.src {B : Nat} {w : World} {v : Value} {ms : List Ce} {cs : List Cc} (h : CRow B w v ms cs) : CSrc w v ms cs := ⟨lies_of_row h.row, fun e he => (h.lies e he).lies, h.xs⟩
theorem CRow.below {B : Nat} {w w' : World} {v : Value} {ms : List Ce} {cs : List Cc} (h : CRow B w v ms cs) (hb : Below w.heap.size w w') : CRow B w' v ms cs :=
  ⟨row_below h.row hb, fun e he => (h.lies e he).below hb, h.xs⟩
theorem CRow.up {B B' : Nat} {w : World} {v : Value} {ms : List Ce} {cs : List Cc} (h : CRow B w v ms cs) (hB : B' ≤ B) : CRow B' w v ms cs :=
  ⟨row_up h.row hB, fun e he => (h.lies e he).up hB, h.xs⟩
theorem CRow.nil (B : Nat) (w : World) : CRow B w (.slice none 0 0) [] [] := ⟨World.ownsRow_nil _ _ _ _, (fun e h => by cases h), rfl⟩
theorem CRow.len {B : Nat} {w : World} {v : Value} {ms : List Ce} {cs : List Cc} (h : CRow B w v ms cs) : ms.length = cs.length := by rw [← h.xs, List.length_map]
theorem iown_grown {B : Nat} {w w' : World} {row : Option Nat} {L : Value} {l : List Int} (h : IOwn B w L l) (hg : w.grownBy w' row) (ht : ∀ g, row = some g → ∃ cs z, w.heap[g]? = some (.cells cs 25 z)) : IOwn B w' L l := by
  refine row_at h fun g cs z hc _ => hg.block g (Array.getElem?_eq_some_iff.1 hc).1 fun e => ?_
  obtain ⟨cs', z', h2⟩ := ht g e.symm
  rw [hc] at h2
  simp at h2
theorem row_typed {w : World} {B e s n : Nat} {v : Value} {xs : List Value} (h : w.ownsRow B e s v n xs) : ∀ g, v.ownBlock = some g → ∃ cs z, w.heap[g]? = some (.cells cs e z) := by
  intro g hg
  rcases h.2 with ⟨h1, _⟩ | ⟨g', cap, cur, h1, h2, h3, _⟩
  · rw [h1] at hg; cases hg
  · rw [h1] at hg
    simp [Value.ownBlock] at hg
    subst hg
    exact ⟨_, _, h3⟩
/-- One more. -/
theorem CRow.push {B : Nat} {w w' : World} {v v' : Value} {ms : List Ce} {cs : List Cc} {c : Cc} {L : Value} (h : CRow B w v ms cs) (hrow : w'.ownsRow B 25 3 v' (ms.length + 1) (ccells ms ++ Ce.cells ⟨c, L⟩)) (hg : w.grownBy w' v.ownBlock) (hl : IOwn B w L c.args) :
    CRow B w' v' (ms ++ [⟨c, L⟩]) (cs ++ [c]) := by
  have ht := row_typed h.row
  refine ⟨?_, fun e he => ?_, by rw [List.map_append, h.xs]; rfl⟩
  · rw [show ccells (ms ++ [⟨c, L⟩]) = ccells ms ++ Ce.cells ⟨c, L⟩ by simp [ccells], List.length_append]
    exact hrow
  · rcases List.mem_append.1 he with h1 | h1
    · exact iown_grown (h.lies e h1) hg ht
    · simp at h1
      subst h1
      exact iown_grown hl hg ht
theorem ccells_new {w : World} {x : Cc} {L : Value} : ∀ (j : Nat) u, (Ce.cells ⟨x, L⟩)[j]? = some u → (w.alloc (.cells #[.int .i64 x.site, .int .i64 x.fn, L] 25)).cell? ((⟨w.heap.size, 0, none⟩ : Addr).add j) = some u := by
  intro j u hu
  have h : (w.alloc (.cells #[.int .i64 x.site, .int .i64 x.fn, L] 25)).heap[w.heap.size]? = some (.cells #[.int .i64 x.site, .int .i64 x.fn, L] 25 (0, 0)) := by
    show (w.heap.push _)[w.heap.size]? = some _
    exact Array.getElem?_push_size
  rw [add_plain, Nat.zero_add]
  generalize w.alloc (.cells #[.int .i64 x.site, .int .i64 x.fn, L] 25) = W at h ⊢
  simp only [World.cell?, h]
  rw [← hu]
  match j with
  | 0 => rfl
  | 1 => rfl
  | 2 => rfl
  | j + 3 => simp [Ce.cells]
theorem ccells_one {x : Cc} {ao : Option Addr} {n c : Nat} : ∀ u ∈ Ce.cells ⟨x, .slice ao n c⟩, u.oneCell' = true := by
  intro u hu
  simp [Ce.cells] at hu
  rcases hu with rfl | rfl | rfl <;> rfl
theorem row_slice {w : World} {B e s : Nat} {v : Value} {n : Nat} {xs : List Value} (h : w.ownsRow B e s v n xs) : ∃ ao cap, v = .slice ao n cap := by
  rcases h.2 with ⟨hv, h0⟩ | ⟨g, cap, cur, hv, _⟩
  · subst h0; exact ⟨none, 0, hv⟩
  · exact ⟨_, _, hv⟩
/-- A copy of numbers: append to nothing. -/
theorem icopy {w : World} {v : Value} {l : List Int} {ops : Array Oper} {rest : List Oper} {o : Oper} {a : Act} {Q : Exit → Act → World → Prop} (hgd : o.guard = none) (s x : Operand)
    (ho : o.op = .call { callee := .builtin .append, args := #[s, x], argTypes := #[23, 23] }) (hs : a.eval s = .slice none 0 0) (hx : a.eval x = v)
    (hC : ILies w v l) (hN : l.length * 8 ≤ 140737488355328) (B : Nat) (hB : B ≤ w.heap.size)
    (h : ∀ v' w', IOwn B w' v' l → Below w.heap.size w w' → wpList Try.prog ops Q rest (a.put o.dst v') w') : wpList Try.prog ops Q (o :: rest) a w := by
  obtain ⟨i0, hi, hz0, hz1, hz2⟩ := info_parts Try.infoIntC
  rcases hC with ⟨rfl, rfl⟩ | ⟨ad, cap, rfl, h2, h2', h3, h4⟩
  · refine wpList_append_own_none hgd s x 23 ho B 3 i0 1 Try.underlying23 hi (.slice none 0 0) 0 [] hs (World.ownsRow_nil _ _ _ _) hx (h _ _ (World.ownsRow_nil _ _ _ _) (Below.refl _ _))
  · refine wpList_append_own _ hgd s x 23 ho B 3 i0 _ 1 8 Try.underlying23 hi hz0 hz1 hz2 rfl (by decide) (.slice none 0 0) 0 [] hs (World.ownsRow_nil _ _ _ _) ad l.length cap (l.map (Value.int .i64)) hx (by simp) (fun j u hu => ?_) (fun u hu => ?_) ?_ ?_ hB ?_
    · rw [List.getElem?_map] at hu
      cases hk : l[j]? with
      | none => rw [hk] at hu; cases hu
      | some i => rw [hk] at hu; cases hu; exact h4 j i hk
    · obtain ⟨i, _, rfl⟩ := List.mem_map.1 hu; rfl
    · unfold maxLen; omega
    · omega
    · intro v' w' hown hgrow _
      rw [Nat.zero_add, List.nil_append] at hown
      exact h v' w' hown ((Below.refl _ _).grown hgrow (Nat.le_refl _) (fun q hq => by cases hq))
theorem box3 {w : World} {b : Nat} {c0 c1 c2 : Value} {t : TypeId} (h : w.heap[b]? = some (.cells #[c0, c1, c2] t (0, 0))) :
    (w.cell? ⟨b, 0, none⟩ = some c0 ∧ w.cell? ⟨b, 1, none⟩ = some c1 ∧ w.cell? ⟨b, 2, none⟩ = some c2) ∧ w.frozen? ⟨b, 0, none⟩ = false ∧ w.frozen? ⟨b, 1, none⟩ = false ∧ w.frozen? ⟨b, 2, none⟩ = false := by
  simp [World.cell?, World.frozen?, h]
theorem two_boxes {w w1 : World} {o1 o2 : Obj} (hb : Below ((w.alloc o1).alloc o2).heap.size ((w.alloc o1).alloc o2) w1) : w1.heap[w.heap.size]? = some o1 ∧ w1.heap[w.heap.size + 1]? = some o2 ∧ w.heap.size + 1 < w1.heap.size ∧ Below w.heap.size w w1 := by
  have hs := hb.size
  simp at hs
  refine ⟨?_, ?_, by omega, ?_⟩
  · rw [hb.block _ (by simp; omega)]; show ((w.heap.push o1).push o2)[w.heap.size]? = some o1; rw [Array.getElem?_push_lt (by simp), Array.getElem_push_eq]
  · rw [hb.block _ (by simp)]; show ((w.heap.push o1).push o2)[w.heap.size + 1]? = some o2; have e : (w.heap.push o1).size = w.heap.size + 1 := by simp
    rw [← e, Array.getElem?_push_size]
  · exact (((Below.refl _ _).alloc (Nat.le_refl _) _).alloc (by simp) _).trans (hb.mono (by simp; omega))
theorem below_up {w u : World} {o : Obj} (hb : Below (w.alloc o).heap.size (w.alloc o) u) : Below w.heap.size w u := ((Below.refl _ _).alloc (Nat.le_refl _) _).trans (hb.mono (by simp))
theorem box_stays {w u : World} {o : Obj} (hb : Below (w.alloc o).heap.size (w.alloc o) u) : u.heap[w.heap.size]? = some o := by
  rw [hb.block _ (by simp)]; show (w.heap.push o)[w.heap.size]? = some o; exact Array.getElem?_push_size
theorem one_box {w w1 : World} {o1 : Obj} (hb : Below (w.alloc o1).heap.size (w.alloc o1) w1) : w1.heap[w.heap.size]? = some o1 ∧ w.heap.size < w1.heap.size ∧ Below w.heap.size w w1 :=
  ⟨box_stays hb, by have := hb.size; simp at this; omega, below_up hb⟩
section
variable {H : Type} {enc : TypeId × Value → H} {W : World}
theorem call_weights (d0 d1 : DataW H) (l sp : List (DataW H)) (R : Nat) (h : ∀ n ∈ (DataW.agg [d0, d1, .slice l sp]).weights Try.prog 25, n ≤ R) (h0 : d0.weights Try.prog 3 = []) (h1 : d1.weights Try.prog 3 = []) : (l.length + sp.length) * 8 ≤ R := by
  refine h _ ?_
  simp [DataW.weights, Try.underlying25, Try.underlying23, Try.bytesIntC, DataW.weightsEach]
/-- One call, read. -/
theorem call_cells {fuel : Nat} {v0 v1 v2 : Value} {y0 y1 y2 : DataW H × List MemPlace} {R : Nat}
    (g0 : DataW.trod enc Try.prog W 0 (fun _ => true) true fuel 3 [v0] = some y0) (g1 : DataW.trod enc Try.prog W 0 (fun _ => true) true fuel 3 [v1] = some y1) (g2 : DataW.trod enc Try.prog W 0 (fun _ => true) true fuel 23 [v2] = some y2)
    (hR : R ≤ 140737488351232) (hw : ∀ n ∈ (DataW.agg [y0.1, y1.1, y2.1]).weights Try.prog 25, n ≤ R) : ∃ e : Ce, [v0, v1, v2] = e.cells ∧ CIn e.x ∧ ILies W e.L e.x.args := by
  obtain ⟨n0, e0, r0, k0⟩ := DataW.trod_int Try.underlying3 g0
  obtain ⟨n1, e1, r1, k1⟩ := DataW.trod_int Try.underlying3 g1
  simp at e0 e1
  subst e0; subst e1
  rcases open_ints Try.underlying23 Try.underlying3 Try.cellsIntC g2 with ⟨hcs, hx⟩ | ⟨a, len, cap, zs, hcs, _, hl, hm, hz, hx, hcell, hwf⟩
  · simp at hcs
    subst hcs
    exact ⟨⟨⟨n0, n1, []⟩, _⟩, rfl, ⟨k0, k1, (fun i hi => by cases hi), by simp⟩, .inl ⟨rfl, rfl⟩⟩
  · simp at hcs
    subst hcs
    simp only [if_true] at hz
    have hlen : (zs.take len).length = len := by simp; omega
    refine ⟨⟨⟨n0, n1, zs.take len⟩, _⟩, rfl, ⟨k0, k1, fun i hi => hwf i (List.mem_of_mem_take hi), ?_⟩, .inr ⟨a, cap, by simp only [hlen], by simp only [hlen]; exact hl, hm, fun hne => ?_, fun k i hk => ?_⟩⟩
    · rw [hx] at hw
      have := call_weights _ _ _ _ R hw (by rw [r0]; rfl) (by rw [r1]; rfl)
      simp only [lits, List.length_map] at this
      simp only at hlen ⊢
      omega
    · simp only at hne
      have h0 : 0 < len := by
        rcases Nat.eq_zero_or_pos len with h | h
        · exfalso; apply hne; rw [h]; rfl
        · exact h
      have := World.cell?_spot (hcell 0 (by omega))
      simpa [Addr.add] using this
    · simp only at hk
      have hj : k < len := by
        have := (List.getElem?_eq_some_iff.1 hk).1
        omega
      have hX' : zs.getD k 0 = i := by
        rw [List.getElem?_take_of_lt hj] at hk
        simp [List.getD, hk]
      rw [← hX']
      exact hcell k (by omega)
theorem ccame_of {r : Reach} {b0 : Nat} {v : Value} {d : DataW H} {p : List MemPlace} {ts : List TypeId} {ds : List (DataW H)} {j : Nat}
    (hv : Value.okWide Try.prog W r b0 25 v) (h : DataW.Trod enc Try.prog W 0 (fun _ => true) true 25 v d p)
    (hsz : (DataW.weightsEach Try.prog ts ds).all (· ≤ reachBytes) = true) (ht : ts[j]? = some 25) (hd : ds[j]? = some d) :
    ∃ (x : Cc) (L : Value), v = cval x L ∧ CIn x ∧ ILies W L x.args := by
  obtain ⟨v0, v1, v2, y0, y1, y2, n, rfl, rfl, rfl, g0, g1, g2⟩ := Joins.open_agg3 Try.underlying25 (by kernel_rfl) Try.cellsCall hv h
  obtain ⟨e, he, h1, h2⟩ := call_cells g0 g1 g2 (Nat.le_refl _) (fun n hn => by
    have := List.all_eq_true.1 hsz _ (DataW.weights_mem_each ht hd _ hn)
    exact of_decide_eq_true this)
  simp [Ce.cells] at he
  obtain ⟨rfl, rfl, rfl⟩ := he
  exact ⟨e.x, e.L, rfl, h1, h2⟩
theorem call_read {fuel : Nat} {cs : List Value} {x : DataW H × List MemPlace} {R : Nat} (h : DataW.trod enc Try.prog W 0 (fun _ => true) true fuel 25 cs = some x) (hR : R ≤ 140737488351232) (hw : ∀ n ∈ x.1.weights Try.prog 25, n ≤ R) :
    ∃ e : Ce, cs = e.cells ∧ CIn e.x ∧ ILies W e.L e.x.args := by
  obtain ⟨xs, n, -, hx, hlen, hxl, hf⟩ := DataW.trod_struct Try.underlying25 h
  rw [Try.cellsCall] at hlen
  match xs, hxl, cs, hlen with
  | [y0, y1, y2], _, [v0, v1, v2], _ =>
    have g0 : DataW.trod enc Try.prog W 0 (fun _ => true) true n 3 (List.take (Try.prog.cellsOf 3) [v0, v1, v2]) = some y0 := hf 0 _ rfl
    rw [Try.cellsIntC] at g0
    have g1 : DataW.trod enc Try.prog W 0 (fun _ => true) true n 3 (List.take (Try.prog.cellsOf 3) [v1, v2]) = some y1 := hf 1 _ rfl
    rw [Try.cellsIntC] at g1
    have g2 : DataW.trod enc Try.prog W 0 (fun _ => true) true n 23 (List.take (Try.prog.cellsOf 23) [v2]) = some y2 := hf 2 _ rfl
    rw [Try.cellsIntsC] at g2
    rw [hx] at hw
    exact call_cells g0 g1 g2 hR hw
theorem weightsAll_in {P : Program} {e : TypeId} : ∀ {l : List (DataW H)} {d : DataW H}, d ∈ l → ∀ n ∈ d.weights P e, n ∈ DataW.weightsAll P e l
  | x :: r, d, h, n, hn => by
    simp only [DataW.weightsAll, List.mem_append]
    rcases List.mem_cons.1 h with rfl | h
    · exact .inl hn
    · exact .inr (weightsAll_in h n hn)
theorem cs_came {a0 : Option Addr} {len cap : Nat} {d : DataW H} {p : List MemPlace} {ts : List TypeId} {ds : List (DataW H)} {j : Nat}
    (h : DataW.Trod enc Try.prog W 0 (fun _ => true) true 22 (.slice a0 len cap) d p)
    (hsz : (DataW.weightsEach Try.prog ts ds).all (· ≤ reachBytes) = true) (ht : ts[j]? = some 22) (hd : ds[j]? = some d) :
    ∃ es cs, CSrc W (.slice a0 len cap) es cs ∧ (∀ c ∈ cs, CIn c) ∧ cs.length ≤ 3518437208780 := by
  have hw : ∀ n ∈ d.weights Try.prog 22, n ≤ 140737488351232 := fun n hn => by
    have := List.all_eq_true.1 hsz _ (DataW.weights_mem_each ht hd _ hn)
    exact of_decide_eq_true this
  obtain ⟨fuel, hf0⟩ := h
  have hf : DataW.trod enc Try.prog W 0 (fun _ => true) true fuel 22 [.slice a0 len cap] = some (d, p) := hf0
  rcases Deep.open_slice Try.underlying22 hf with ⟨hcs, hx⟩ | ⟨a, len', cap', m, n, D, Pl, hcs, _, hl, hm, hmm, hx, hcell⟩
  · simp at hcs
    obtain ⟨rfl, rfl, rfl⟩ := hcs
    exact ⟨[], [], ⟨.inl ⟨rfl, rfl⟩, (fun e h => by cases h), rfl⟩, (fun c h => by cases h), by simp⟩
  · simp at hcs
    obtain ⟨rfl, rfl, rfl⟩ := hcs
    simp only [if_true] at hmm
    subst hmm
    rw [Try.cellsCall] at hcell
    simp only [Prod.mk.injEq] at hx
    obtain ⟨rfl, -⟩ := hx
    simp only [DataW.weights, Try.underlying22, Try.bytesCall, List.length_map, List.length_range, List.mem_cons, List.mem_append] at hw
    have hn := hw _ (.inl rfl)
    have each : ∀ i, i < len → ∃ e : Ce, (∀ j u, e.cells[j]? = some u → W.cell? ((a.add (i * 3)).add j) = some u) ∧ CIn e.x ∧ ILies W e.L e.x.args := fun i hi => by
      obtain ⟨cs', h1, h2⟩ := hcell i (by omega)
      obtain ⟨_, hlen, hc⟩ := World.cells?_some h1
      obtain ⟨e, rfl, hD⟩ := call_read h2 (Nat.le_refl _) (fun q hq => hw q (.inr (.inl (weightsAll_in (show D i ∈ (List.range len).map D from List.mem_map.2 ⟨i, List.mem_range.2 hi, rfl⟩) q hq))))
      refine ⟨e, fun j u hu => ?_, hD⟩
      have hj := (List.getElem?_eq_some_iff.1 hu).1
      rw [hc j (by rw [hlen] at hj; exact hj), hu]
    haveI : Inhabited Ce := ⟨⟨⟨0, 0, []⟩, .slice none 0 0⟩⟩
    obtain ⟨f, hfun⟩ := Deep.choose_lt each
    have hL : ((List.range len).map f).length = len := by simp
    refine ⟨(List.range len).map f, ((List.range len).map f).map (·.x), ⟨.inr ⟨a, m, by rw [hL], by rw [hL]; exact hl, hm, fun hne => ?_, fun k e hk j u hu => ?_⟩, fun e he => ?_, rfl⟩, fun c hc => ?_, by rw [List.length_map, hL]; omega⟩
    · have h0 : 0 < len := by
        rcases Nat.eq_zero_or_pos len with h | h
        · exfalso; apply hne; rw [h]; rfl
        · exact h
      have := World.cell?_spot ((hfun 0 h0).1 0 _ rfl)
      simpa [Addr.add] using this
    · have hkl := (List.getElem?_eq_some_iff.1 hk).1
      rw [hL] at hkl
      have hk2 : ((List.range len).map f)[k]? = some (f k) := by
        rw [List.getElem?_map, List.getElem?_range hkl]; rfl
      rw [hk2] at hk
      cases hk
      have := (hfun k hkl).1 j u hu
      rwa [Deep.add_add] at this
    · obtain ⟨i, hi, rfl⟩ := List.mem_map.1 he
      exact (hfun i (List.mem_range.1 hi)).2.2
    · obtain ⟨e, he, rfl⟩ := List.mem_map.1 hc
      obtain ⟨i, hi, rfl⟩ := List.mem_map.1 he
      exact (hfun i (List.mem_range.1 hi)).2.1
end
end Go.Proofs.Ytiaoidbhdkldlab
