/- Memory: a state with room behind what its activations keep. -/
import Derived.Test.YtcnpoldcebdhjaaPmem4
import Derived.Laws.MakeOwn
namespace Go.Proofs.Ytcnpoldcebdhjaa
open Go.ChangeShapes Go.WideShapes Go.ChangeAt Go.RowKit
set_option maxRecDepth 100000
set_option linter.unusedSimpArgs false
set_option linter.unusedVariables false
/-- A list with marked room behind it. -/
def RoomE (u : World) (e : Fe) : Prop := ∃ g, e.L = .slice (some ⟨g, 0, none⟩) e.x.df.reverse.length (e.x.df.reverse.length + 2) ∧ Room u g e.x.df.reverse
theorem room_keep {u u' : World} {g : Nat} {l : List Int} (h : Room u g l) (hk : u'.heap[g]? = u.heap[g]?) : Room u' g l := by show u'.heap[g]? = _; rw [hk]; exact h
theorem RoomE.below {u u' : World} {e : Fe} (h : RoomE u e) (hb : Below u.heap.size u u') : RoomE u' e := by
  obtain ⟨g, h1, h2⟩ := h
  exact ⟨g, h1, room_keep h2 (hb.block g (Array.getElem?_eq_some_iff.1 (show u.heap[g]? = _ from h2)).1)⟩
theorem RoomE.far {u u' : World} {e : Fe} {b : Nat} {cs : Array Value} {t : TypeId} (h : RoomE u e) (hb : u.heap[b]? = some (.cells cs t (0, 0))) (ht : t ≠ 3) (ho : ∀ g, g ≠ b → u'.heap[g]? = u.heap[g]?) : RoomE u' e := by
  obtain ⟨g, h1, h2⟩ := h
  exact ⟨g, h1, room_keep h2 (ho g (fun e2 => by subst e2; rw [show u.heap[g]? = _ from h2] at hb; simp at hb; exact ht hb.2.symm))⟩
/-- A state with room behind what its activations keep. -/
structure RmS (B : Nat) (w : World) (F P : Value) (es : List Fe) (st : St) : Prop where
  row : w.ownsRow B 53 5 F es.length (rc Fe.cells es)
  xs : es.map (·.x) = st.fr.reverse
  rooms : ∀ e ∈ es, RoomE w e ∧ e.x.df.reverse.length ≤ 1000000
  ps : w.ownsRow B 55 7 P st.ps.reverse.length (rc Pn.cells st.ps.reverse)
theorem RmS.below {B : Nat} {w w' : World} {F P : Value} {es : List Fe} {st : St} (h : RmS B w F P es st) (hb : Below w.heap.size w w') : RmS B w' F P es st :=
  ⟨row_below h.row hb, h.xs, fun e he => ⟨(h.rooms e he).1.below hb, (h.rooms e he).2⟩, row_below h.ps hb⟩
theorem RmS.far {B b : Nat} {w u : World} {F P : Value} {es : List Fe} {st : St} {cs : Array Value} {t : TypeId} (h : RmS B w F P es st) (hb : w.heap[b]? = some (.cells cs t (0, 0))) (h1 : 53 ≠ t) (h2 : 55 ≠ t) (h3 : t ≠ 3) (ho : ∀ g, g ≠ b → u.heap[g]? = w.heap[g]?) : RmS B u F P es st :=
  ⟨row_far h.row hb h1 (fun b hb _ => ho b hb), h.xs, fun e he => ⟨(h.rooms e he).1.far hb h3 ho, (h.rooms e he).2⟩, row_far h.ps hb h2 (fun b hb _ => ho b hb)⟩
theorem RmS.lies {B : Nat} {w : World} {F P : Value} {es : List Fe} {st : St} (h : RmS B w F P es st) : SLies w F P es st :=
  ⟨lies_own Fe.len h.row, fun e he => by
    obtain ⟨⟨g, h1, h2⟩, h3⟩ := h.rooms e he
    rw [h1]
    exact h2.lies (by omega), h.xs, lies_own Pn.len h.ps⟩
/-- Append onto an empty row of one's own. -/
theorem gmore {α : Type} {s : Nat} {c : α → List Value} {o : Oper} {a : Act} {K : Act → World → Prop} {Q : Exit → Act → World → Prop} {u : World} {B e t bytes : Nat} {z : Value} {v P : Value} {l : List α} (sl y : Operand) (hs : ∀ x, (c x).length = s)
    (hinf : (Try.prog.info? e).map (fun i => (i.zero, i.size, i.bytes)) = some (some z, s, bytes)) (hzs : z.cells.size = s) (hs0 : 0 < s) (ht : Try.prog.underlying t = some (.slice e))
    (ho : o.op = .call { callee := .builtin .append, args := #[sl, y], argTypes := #[t, t] }) (hv : a.eval sl = v) (hx : a.eval y = P) (h : u.ownsRow B e s v 0 []) (hC : RLies s c u P l) (h1 : ∀ x ∈ l, ∀ u ∈ c x, u.oneCell' = true) (hB : B ≤ u.heap.size) (hN : l.length * bytes ≤ 140737488355328) (hb8 : 8 ≤ bytes)
    (k : ∀ v' u', u'.ownsRow B e s v' l.length (rc c l) → Below B u u' → u.grownBy u' v.ownBlock → K (a.put o.dst v') u') : o.wp Try.prog a u K Q := by
  obtain ⟨i0, hi, hz0, hz1, hz2⟩ := info_parts hinf
  rcases hC with ⟨rfl, rfl⟩ | ⟨ad, cap, rfl, h2, h2', h3, h4⟩
  · have hrun := run_append_owned_none (P := Try.prog) (w := u) B t o.type e i0 s ht hi v 0 [] h
    unfold Oper.wp
    simp [execOp, ho, resolve, invoke, builtin, hv, hx, hrun, Result.andThen]
    exact k v u h (Below.refl _ _) ⟨rfl, rfl, rfl, Nat.le_refl _, fun _ _ _ => rfl⟩
  · refine wp_append_own u sl y t ho B e i0 _ s bytes ht hi hz0 hz1 hz2 hzs hs0 v 0 [] hv h ad l.length cap (rc c l) hx (rc_len hs l) (fun j u2 hu => ?_) (fun u2 hu => ?_) ?_ (by rw [Nat.zero_add]; exact hN) hB ?_
    · have hj := (List.getElem?_eq_some_iff.1 hu).1
      rw [rc_len hs] at hj
      have hm := Nat.mod_lt j hs0
      have hd : j = j / s * s + j % s := by rw [Nat.mul_comm]; exact (Nat.div_add_mod j s).symm
      have hdl : j / s < l.length := by rw [Nat.div_lt_iff_lt_mul hs0]; exact hj
      rw [hd] at hu ⊢
      rw [rc_get hs l _ _ _ hm (List.getElem?_eq_getElem hdl)] at hu
      exact h4 _ _ (List.getElem?_eq_getElem hdl) _ _ hu
    · simp only [rc, List.mem_flatMap] at hu
      obtain ⟨y, hy, hyu⟩ := hu
      exact h1 y hy u2 hyu
    · have := Nat.mul_le_mul_left l.length hb8
      unfold maxLen; omega
    · intro v' w' hown hgrow _
      rw [Nat.zero_add, List.nil_append] at hown
      exact k v' w' hown ((Below.refl _ _).grown hgrow hB (fun q hq => (h.lt q hq).1)) hgrow
/-- How far it is. -/
structure RA (n : Nat) (F P : Value) (fo2 : Option Addr) (fc2 : Nat) (P2 : Value) (st : St) (w u : World) (es fes : List Fe) (k : Nat) : Prop where
  b0 : u.heap[w.heap.size]? = some (.cells #[F, P, .int .i64 st.next, .int .i64 st.ser, .int .i64 st.fin, .int .i64 st.stat] 26 (0, 0))
  b1 : u.heap[w.heap.size + 1]? = some (.cells #[.slice none 0 0, .slice none 0 0, .int .i64 0, .int .i64 0, .int .i64 0, .int .i64 0] 26 (0, 0))
  b2 : u.heap[w.heap.size + 1 + 1]? = some (.cells #[.slice fo2 n fc2, P2, .int .i64 st.next, .int .i64 st.ser, .int .i64 st.fin, .int .i64 st.stat] 26 (0, 0))
  row : u.ownsRow (w.heap.size + 3) 53 5 (.slice fo2 n fc2) es.length (rc Fe.cells es)
  len : es.length = fes.length
  xs : ∀ (j : Nat) e, es[j]? = some e → ∃ e0, fes[j]? = some e0 ∧ e.x = e0.x
  done : ∀ (j : Nat) e, j < k → es[j]? = some e → RoomE u e
  rest : ∀ (j : Nat), k ≤ j → es[j]? = fes[j]?
  up : Below w.heap.size w u
  hz : w.heap.size + 3 ≤ u.heap.size
section
variable {n k : Nat} {F P P2 : Value} {fo2 : Option Addr} {fc2 : Nat} {st : St} {w u u' : World} {es fes : List Fe}
theorem RA.below (h : RA n F P fo2 fc2 P2 st w u es fes k) (hb : Below u.heap.size u u') : RA n F P fo2 fc2 P2 st w u' es fes k :=
  have hz := h.hz
  ⟨by rw [hb.block _ (by omega)]; exact h.b0, by rw [hb.block _ (by omega)]; exact h.b1, by rw [hb.block _ (by omega)]; exact h.b2, row_below h.row hb, h.len, h.xs, fun j e hj he => (h.done j e hj he).below hb, h.rest, h.up.trans (hb.mono h.up.size), Nat.le_trans hz hb.size⟩
theorem RA.grown {t : TypeId} {row : Option Nat} (h : RA n F P fo2 fc2 P2 st w u es fes k) (hg : u.grownBy u' row) (hr : ∀ g, row = some g → ∃ cs z, u.heap[g]? = some (.cells cs t z)) (h1 : 26 ≠ t) (h2 : 53 ≠ t) (h3 : 3 ≠ t) (hb : Below w.heap.size u u') : RA n F P fo2 fc2 P2 st w u' es fes k := by
  have key : ∀ (b : Nat) (cs : Array Value) (t2 : TypeId), u.heap[b]? = some (.cells cs t2 (0, 0)) → t2 ≠ t → u'.heap[b]? = u.heap[b]? := fun b cs t2 hc hne => hg.block b (Array.getElem?_eq_some_iff.1 hc).1 (fun e => by obtain ⟨cs3, z3, h5⟩ := hr b e.symm; rw [hc] at h5; simp at h5; exact hne h5.2.1)
  refine ⟨by rw [key _ _ _ h.b0 h1]; exact h.b0, by rw [key _ _ _ h.b1 h1]; exact h.b1, by rw [key _ _ _ h.b2 h1]; exact h.b2, row_grown h.row hg hr h2, h.len, h.xs, fun j e hj he => ?_, h.rest, h.up.trans hb, Nat.le_trans h.hz hb.size⟩
  obtain ⟨g, h5, h6⟩ := h.done j e hj he
  exact ⟨g, h5, room_keep h6 (key g _ _ h6 h3)⟩
/-- The panics' row is put into the box. -/
theorem RA.putP {P3 : Value} (h : RA n F P fo2 fc2 P2 st w u es fes k) : RA n F P fo2 fc2 P3 st w (u.setCell ⟨w.heap.size + 1 + 1, 1, none⟩ P3) es fes k ∧ Below (w.heap.size + 1 + 1) u (u.setCell ⟨w.heap.size + 1 + 1, 1, none⟩ P3) := by
  have ho : ∀ g, g ≠ w.heap.size + 1 + 1 → (u.setCell ⟨w.heap.size + 1 + 1, 1, none⟩ P3).heap[g]? = u.heap[g]? := fun g hg => heap_setCell_other _ _ _ _ (by simpa using hg)
  have hb : Below (w.heap.size + 1 + 1) u (u.setCell ⟨w.heap.size + 1 + 1, 1, none⟩ P3) := (Below.refl (w.heap.size + 1 + 1) u).setCell (p := ⟨w.heap.size + 1 + 1, 1, none⟩) (Nat.le_refl _) P3
  refine ⟨⟨by rw [ho _ (by omega)]; exact h.b0, by rw [ho _ (by omega)]; exact h.b1, ?_, row_far h.row h.b2 (by decide) (fun b hb _ => ho b hb), h.len, h.xs, fun j e hj he => (h.done j e hj he).far h.b2 (by decide) ho, h.rest, h.up.trans (hb.mono (by omega)), Nat.le_trans h.hz hb.size⟩, hb⟩
  rw [heap_setCell_same u _ 1 _ 26 P3 h.b2]; rfl
/-- A list with room is put in its place. -/
theorem RA.step {g r : Nat} {e : Fe} {L' : Value} (h : RA n F P (some ⟨g, 0, none⟩) fc2 P2 st w u es fes k) (hk : es[k]? = some e) (hL : L' = .slice (some ⟨r, 0, none⟩) e.x.df.reverse.length (e.x.df.reverse.length + 2)) (hr : Room u r e.x.df.reverse) :
    RA n F P (some ⟨g, 0, none⟩) fc2 P2 st w (u.setCell ⟨g, k * 5 + 4, none⟩ L') (es.set k ⟨e.x, L'⟩) fes (k + 1) ∧ Below (w.heap.size + 1 + 1) u (u.setCell ⟨g, k * 5 + 4, none⟩ L') ∧ (∀ (b : Nat) (cs : Array Value) (t2 : TypeId), u.heap[b]? = some (.cells cs t2 (0, 0)) → t2 ≠ 53 → (u.setCell ⟨g, k * 5 + 4, none⟩ L').heap[b]? = u.heap[b]?) := by
  obtain ⟨g', cap', hv, hgB, -, -, -, cur, hcur⟩ := own_at Fe.len h.row hk
  simp only [Value.slice.injEq, Option.some.injEq, Addr.mk.injEq] at hv
  obtain ⟨⟨hgg, -⟩, -, -⟩ := hv
  subst hgg
  have hkl := (List.getElem?_eq_some_iff.1 hk).1
  have ho : ∀ b, b ≠ g → (u.setCell ⟨g, k * 5 + 4, none⟩ L').heap[b]? = u.heap[b]? := fun b hb => heap_setCell_other _ _ _ _ (by simpa using hb)
  have hb : Below (w.heap.size + 1 + 1) u (u.setCell ⟨g, k * 5 + 4, none⟩ L') := (Below.refl _ _).setCell (by show _ ≤ g; omega) L'
  have key : ∀ (b : Nat) (cs : Array Value) (t2 : TypeId), u.heap[b]? = some (.cells cs t2 (0, 0)) → t2 ≠ 53 → (u.setCell ⟨g, k * 5 + 4, none⟩ L').heap[b]? = u.heap[b]? := fun b cs t2 hc hne => ho b (fun e => by subst e; rw [hcur] at hc; simp at hc; exact hne hc.2.symm)
  refine ⟨⟨by rw [key _ _ _ h.b0 (by decide)]; exact h.b0, by rw [key _ _ _ h.b1 (by decide)]; exact h.b1, by rw [key _ _ _ h.b2 (by decide)]; exact h.b2, ?_, by rw [List.length_set]; exact h.len, fun j e2 he2 => ?_, fun j e2 hj he2 => ?_, fun j hj => ?_, h.up.trans (hb.mono (by omega)), Nat.le_trans h.hz hb.size⟩, hb, key⟩
  · have h3 := own_set Fe.len h.row (u := L') (i := 4) (e' := ⟨e.x, L'⟩) hk (by decide) rfl
    rw [List.length_set]
    exact h3
  · by_cases hjk : j = k
    · subst hjk
      rw [List.getElem?_set_self hkl] at he2
      cases he2
      obtain ⟨e0, h1, h2⟩ := h.xs j e hk
      exact ⟨e0, h1, h2⟩
    · rw [List.getElem?_set_ne (Ne.symm hjk)] at he2
      exact h.xs j e2 he2
  · by_cases hjk : j = k
    · subst hjk
      rw [List.getElem?_set_self hkl] at he2
      cases he2
      exact ⟨r, hL, room_keep hr (key r _ _ hr (by decide))⟩
    · rw [List.getElem?_set_ne (Ne.symm hjk)] at he2
      exact (h.done j e2 (by omega) he2).far hcur (by decide) ho
  · rw [List.getElem?_set_ne (by omega)]
    exact h.rest j (by omega)
end
theorem RA.start {n : Nat} {F P G Q : Value} {fo2 : Option Addr} {fc2 : Nat} {st : St} {w w1 : World} {fes : List Fe} (g0 : w1.heap[w.heap.size]? = some (.cells #[F, P, .int .i64 st.next, .int .i64 st.ser, .int .i64 st.fin, .int .i64 st.stat] 26 (0, 0)))
    (g1 : w1.heap[w.heap.size + 1]? = some (.cells #[.slice none 0 0, .slice none 0 0, .int .i64 0, .int .i64 0, .int .i64 0, .int .i64 0] 26 (0, 0))) (g2 : w1.heap[w.heap.size + 1 + 1]? = some (.cells #[G, Q, .int .i64 st.next, .int .i64 st.ser, .int .i64 st.fin, .int .i64 st.stat] 26 (0, 0)))
    (hown : w1.ownsRow (w.heap.size + 3) 53 5 (.slice fo2 n fc2) fes.length (rc Fe.cells fes)) (hb : Below w.heap.size w w1) (hz : w.heap.size + 1 + 1 < w1.heap.size) :
    RA n F P fo2 fc2 Q st w (w1.setCell ⟨w.heap.size + 1 + 1, 0, none⟩ (.slice fo2 n fc2)) fes fes 0 := by
  have ho : ∀ g, g ≠ w.heap.size + 1 + 1 → (w1.setCell ⟨w.heap.size + 1 + 1, 0, none⟩ (.slice fo2 n fc2)).heap[g]? = w1.heap[g]? := fun g hg => heap_setCell_other _ _ _ _ (by simpa using hg)
  refine ⟨by rw [ho _ (by omega)]; exact g0, by rw [ho _ (by omega)]; exact g1, ?_, row_far hown g2 (by decide) (fun b hb _ => ho b hb), rfl, fun j e he => ⟨e, he, rfl⟩, fun j e hj he => by omega, fun j hj => rfl, hb.setCell (by show _ ≤ w.heap.size + 1 + 1; omega) _, by simp [World.setCell]; omega⟩
  rw [heap_setCell_same w1 _ 0 _ 26 _ g2]; rfl
def isRm (l : List Int) : Value → World → Prop := fun v u => ∃ g, v = .slice (some ⟨g, 0, none⟩) l.length (l.length + 2) ∧ Room u g l
theorem stab_rm (l : List Int) : Stab (isRm l) := fun v w w' hb ⟨g, h1, h2⟩ => ⟨g, h1, room_keep h2 (hb.block g (Array.getElem?_eq_some_iff.1 (show w.heap[g]? = _ from h2)).1)⟩
def isP0 (B : Nat) : Value → World → Prop := fun v u => u.ownsRow B 55 7 v 0 []
theorem stab_p0 (B : Nat) : Stab (isP0 B) := fun v w w' hb h => row_below h hb
def isP1 (B : Nat) (l : List Pn) : Value → World → Prop := fun v u => u.ownsRow B 55 7 v l.length (rc Pn.cells l)
theorem stab_p1 (B : Nat) (l : List Pn) : Stab (isP1 B l) := fun v w w' hb h => row_below h hb
set_option maxHeartbeats 16000000 in
theorem own_roomyState (F P : Value) (fes : List Fe) (st : St) (w : World) (h : SLies w F P fes st) (hfr : st.fr.length ≤ 1000) (hdf : ∀ f ∈ st.fr, f.df.length ≤ 1000000) (hps : st.ps.length ≤ 1000000) :
    Calls Try.prog 22 #[st.val F P] w fun x w' => ∃ F' P' es, x = .returned (st.val F' P') ∧ RmS w.heap.size w' F' P' es st ∧ Below w.heap.size w w' := by
  obtain ⟨fo, fc, hF⟩ := h.fr.shape
  obtain ⟨po, pc, hP⟩ := h.ps.shape
  subst hF; subst hP
  obtain ⟨n, hn⟩ : ∃ n, n = fes.length := ⟨_, rfl⟩
  obtain ⟨m, hm⟩ : ∃ m, m = st.ps.reverse.length := ⟨_, rfl⟩
  rw [← hn, ← hm]
  rw [← hn, ← hm] at h
  have HN : Hid (n = fes.length ∧ m = st.ps.reverse.length) := ⟨hn, hm⟩
  have hn2 : n ≤ 1000000 := by have := congrArg List.length h.xs; simp at this; omega
  have hm2 : m ≤ 1000000 := by rw [hm, List.length_reverse]; exact hps
  have HH : Hid (∀ u, Below w.heap.size w u → SLies u (.slice fo n fc) (.slice po m pc) fes st) := fun u hu => h.below hu
  have HFS : Hid (∀ x ∈ fes, ∀ u ∈ Fe.cells x, u.oneCell' = true) := fun x hx => by
    obtain ⟨ao, cap, he⟩ := (h.own x hx).shape
    exact Fe.one he
  have HDF : Hid (∀ e ∈ fes, e.x.df.reverse.length ≤ 1000000) := fun e he => by
    have h1 : e.x ∈ fes.map (·.x) := List.mem_map.2 ⟨e, he, rfl⟩
    rw [h.xs] at h1
    have := hdf e.x (by simpa using h1)
    simp; omega
  obtain ⟨i0, hi, hz0, hz1, hz2⟩ := info_parts Try.infoPn
  have hmk : ∀ u : World, (Instr.makeSlice 24 (.int .i64 0) (.int .i64 ((m : Int) + 2))).run Try.prog u =
      .ok (.slice (some ⟨u.heap.size, 0, none⟩) 0 (m + 2)) (u.alloc (.cells (madeCells (Value.agg #[.int .i64 0, .int .i64 0, .int .i64 0, .string ⟨#[]⟩, .slice none 0 0, .bool false, .bool false]).cells ((m + 2) * 7)) 55)) := fun u => by
    have h := run_make (P := Try.prog) u 24 55 i0 _ Try.underlying24 hi hz0 .i64 .i64 0 ((m : Int) + 2) (Int.le_refl _) (by omega) (by rw [hz2]; omega) (by omega)
    have e : ((m : Int) + 2).toNat = m + 2 := by omega
    rw [e, hz1] at h
    exact h
  have hwm : IntKind.i64.wrap ((m : Int) + 2) = (m : Int) + 2 := by rw [IntKind.wrap_i64]; omega
  clear h hdf hfr hps hn hm hi hz0 hz1 hz2
  unfold St.val
  go_enter Try.func22, Try.ntmps22
  go_wp2_with (at_builtin; refine gcopy rfl _ _ Fe.len Try.infoFr rfl (by decide) Try.underlying23 rfl rfl rfl (HH.out _ ((((Below.refl _ _).alloc (Nat.le_refl _) _).alloc (by simp) _).alloc (by simp; omega) _)).fr HFS.out (by have := HN.out.1; omega) (by decide) (w.heap.size + 3) (by simp) ?_; intro v' w1 hown hb1; obtain ⟨fo2, fc2, hv'⟩ := row_slice hown; rw [← HN.out.1] at hv'; subst hv'; have HW1 := Hid.mk' hown; have HB1 := Hid.mk' hb1; obtain ⟨g0, g1, g2, hz, hb2⟩ := three_boxes hb1; obtain ⟨⟨c0, c1, c2, c3, c4, c5⟩, ⟨f0, f1, f2, f3, f4, f5⟩⟩ := box6 g2; have HG := Hid.mk' (And.intro g0 (And.intro g1 g2)); have HBW := Hid.mk' hb2; clear g0 g1 g2 hb1 hb2 hown)
  have HRA := Hid.mk' (RA.start (n := n) (fo2 := fo2) (fc2 := fc2) HG.out.1 HG.out.2.1 HG.out.2.2 HW1.out HBW.out hz)
  clear HG HW1 HB1 HBW hz c0 c1 c2 c3 c4 c5 f0 f1 f2 f3 f4 f5
  generalize w1.setCell ⟨w.heap.size + 1 + 1, 0, none⟩ (.slice fo2 n fc2) = W2 at *
  have hl : AllStab [isV (.pointer (some ⟨w.heap.size, 1, none⟩)), isV (.slice po m pc), isV (.int .i64 m), isV (.int .i64 ((m : Int) + 2)), isP0 (w.heap.size + 3), isV (.pointer (some ⟨w.heap.size, 1, none⟩)), isV (.slice po m pc), isP1 (w.heap.size + 3) st.ps.reverse, isV (.pointer (some ⟨w.heap.size + 1 + 1, 1, none⟩)), anyV] := ⟨stab_is _, stab_is _, stab_is _, stab_is _, stab_p0 _, stab_is _, stab_is _, stab_p1 _ _, stab_is _, stab_any, trivial⟩
  refine wp_joint (JB [isV (.pointer (some ⟨w.heap.size, 1, none⟩)), isV (.slice po m pc), isV (.int .i64 m), isV (.int .i64 ((m : Int) + 2)), isP0 (w.heap.size + 3), isV (.pointer (some ⟨w.heap.size, 1, none⟩)), isV (.slice po m pc), isP1 (w.heap.size + 3) st.ps.reverse, isV (.pointer (some ⟨w.heap.size + 1 + 1, 1, none⟩)), anyV] ([99, 99, 99, 99, 7, 99, 99, 9, 99, 99].getD · 99) (fun d f2 u => (d 9 = false → RA n (.slice fo n fc) (.slice po m pc) fo2 fc2 (.slice po m pc) st w u fes fes 0) ∧ (d 9 = true → ∃ P3, RA n (.slice fo n fc) (.slice po m pc) fo2 fc2 P3 st w u fes fes 0 ∧ isP1 (w.heap.size + 3) st.ps.reverse P3 u)) (w.heap.size + 1 + 1) W2) (by kernel_rfl) (by kernel_rfl) (by kernel_rfl) (fun f => ⟨(Below.refl _ _).drew, (by have := HRA.out.hz; omega), rfl, (fun i h _ => by cases h), ⟨fun _ => HRA.out.below (Below.refl _ _).drew, fun h => by cases h⟩⟩) ?_ ?_
  · refine stepsOK5_cons (fun f2 d u hJ hn hd hno K hK => ?_) (stepsOK5_cons (fun f2 d u hJ hn hd hno K hK => ?_) (stepsOK5_cons (fun f2 d u hJ hn hd hno K hK => ?_) (stepsOK5_cons (fun f2 d u hJ hn hd hno K hK => ?_) (stepsOK5_cons (fun f2 d u hJ hn hd hno K hK => ?_) (stepsOK5_cons (fun f2 d u hJ hn hd hno K hK => ?_) (stepsOK5_cons (fun f2 d u hJ hn hd hno K hK => ?_) (stepsOK5_cons (fun f2 d u hJ hn hd hno K hK => ?_) (stepsOK5_cons (fun f2 d u hJ hn hd hno K hK => ?_) (stepsOK5_cons (fun f2 d u hJ hn hd hno K hK => ?_) stepsOK5_nil)))))))))
    · refine wanted_on rfl ?_
      simp only [putAll, Act.put, List.setIfInBounds_toArray, List.set_cons_zero, List.set_cons_succ] at hK ⊢
      go_simp
      exact hK _ _ _ rfl (hJ.grow hl (by decide) (Below.refl _ _) rfl hJ.more)
    · have e0 : f2 0 = (.pointer (some ⟨w.heap.size, 1, none⟩)) := hJ.at 0 (hd 0 (by kernel_rfl)) hJ.none
      obtain ⟨⟨-, x1, -, -, -, -⟩, -⟩ := box6 (hJ.more.1 (hno 9 (by kernel_rfl))).b0
      refine wanted_on rfl ?_
      simp only [putAll, Act.put, List.setIfInBounds_toArray, List.set_cons_zero, List.set_cons_succ, e0] at hK ⊢
      go_simp
      exact hK _ _ _ rfl (hJ.grow hl (by decide) (Below.refl _ _) rfl hJ.more)
    · have e1 : f2 1 = (.slice po m pc) := hJ.at 1 (hd 1 (by kernel_rfl)) hJ.none
      refine wanted_on rfl ?_
      simp only [putAll, Act.put, List.setIfInBounds_toArray, List.set_cons_zero, List.set_cons_succ, e1] at hK ⊢
      go_simp
      exact hK _ _ _ rfl (hJ.grow hl (by decide) (Below.refl _ _) rfl hJ.more)
    · have e2 : f2 2 = (.int .i64 m) := hJ.at 2 (hd 2 (by kernel_rfl)) hJ.none
      refine wanted_on rfl ?_
      simp only [putAll, Act.put, List.setIfInBounds_toArray, List.set_cons_zero, List.set_cons_succ, e2] at hK ⊢
      go_simp
      exact hK _ _ _ rfl (hJ.grow hl (by decide) (Below.refl _ _) (by first | rfl | (show Value.int .i64 _ = _; rw [hwm])) hJ.more)
    · have e3 : f2 3 = (.int .i64 ((m : Int) + 2)) := hJ.at 3 (hd 3 (by kernel_rfl)) hJ.none
      refine wanted_on rfl ?_
      simp only [putAll, Act.put, List.setIfInBounds_toArray, List.set_cons_zero, List.set_cons_succ, e3] at hK ⊢
      go_simp
      have hb : Below u.heap.size u (u.alloc (.cells (madeCells (Value.agg #[.int .i64 0, .int .i64 0, .int .i64 0, .string ⟨#[]⟩, .slice none 0 0, .bool false, .bool false]).cells ((m + 2) * 7)) 55)) := (Below.refl _ _).alloc (Nat.le_refl _) _
      exact hK _ _ _ rfl (hJ.grow hl (by decide) hb (World.ownsRow_made u _ (m + 2) (hJ.more.1 (hno 9 (by kernel_rfl))).hz (by unfold maxLen; omega) (size_madeCells _ _)) ⟨fun _ => (hJ.more.1 (hno 9 (by kernel_rfl))).below hb, (fun h10 => by have h9 : d 9 = true := h10; rw [hno 9 (by kernel_rfl)] at h9; cases h9)⟩)
    · refine wanted_on rfl ?_
      simp only [putAll, Act.put, List.setIfInBounds_toArray, List.set_cons_zero, List.set_cons_succ] at hK ⊢
      go_simp
      exact hK _ _ _ rfl (hJ.grow hl (by decide) (Below.refl _ _) rfl hJ.more)
    · have e5 : f2 5 = (.pointer (some ⟨w.heap.size, 1, none⟩)) := hJ.at 5 (hd 5 (by kernel_rfl)) hJ.none
      obtain ⟨⟨-, x1, -, -, -, -⟩, -⟩ := box6 (hJ.more.1 (hno 9 (by kernel_rfl))).b0
      refine wanted_on rfl ?_
      simp only [putAll, Act.put, List.setIfInBounds_toArray, List.set_cons_zero, List.set_cons_succ, e5] at hK ⊢
      go_simp
      exact hK _ _ _ rfl (hJ.grow hl (by decide) (Below.refl _ _) rfl hJ.more)
    · have q4 := hJ.at 4 (hd 4 (by kernel_rfl)) hn
      obtain ⟨V4, e4⟩ : ∃ V, f2 4 = V := ⟨_, rfl⟩
      rw [e4] at q4
      have e6 : f2 6 = (.slice po m pc) := hJ.at 6 (hd 6 (by kernel_rfl)) hJ.none
      refine wanted_on rfl ?_
      simp only [putAll, Act.put, List.setIfInBounds_toArray, List.set_cons_zero, List.set_cons_succ, e4, e6] at hK ⊢
      have hra := (hJ.more.1 (hno 9 (by kernel_rfl)))
      have hq4 : u.ownsRow (w.heap.size + 3) 55 7 V4 0 [] := q4
      refine gmore _ _ Pn.len Try.infoPn rfl (by decide) Try.underlying24 rfl rfl rfl hq4 (HH.out u hra.up).ps (fun x _ => x.one) hra.hz (by have := HN.out.2; rw [← this]; omega) (by decide) ?_
      intro v1 u1 h1 hb hgr
      refine hK _ _ _ rfl (hJ.step (by decide) (hb.mono (by omega)) (fun j h2 h3 h4 h5 h6 => ?_) h1 ⟨fun _ => hra.grown hgr (fun g hg => by obtain ⟨cs, h9⟩ := row_typed hq4 g hg; exact ⟨_, _, h9⟩) (by decide) (by decide) (by decide) (hb.mono (by omega)), (fun h10 => by have h9 : d 9 = true := h10; rw [hno 9 (by kernel_rfl)] at h9; cases h9)⟩)
      match j, h3, h6 with
      | 0, _, h6 => exact h6
      | 1, _, h6 => exact h6
      | 2, _, h6 => exact h6
      | 3, _, h6 => exact h6
      | 4, h3, _ => exact absurd rfl h3
      | 5, _, h6 => exact h6
      | 6, _, h6 => exact h6
      | 7, _, _ => exact absurd rfl h2
      | 8, _, h6 => exact h6
      | 9, _, h6 => exact h6
      | j + 10, _, _ => exact trivial
    · refine wanted_on rfl ?_
      simp only [putAll, Act.put, List.setIfInBounds_toArray, List.set_cons_zero, List.set_cons_succ] at hK ⊢
      go_simp
      exact hK _ _ _ rfl (hJ.grow hl (by decide) (Below.refl _ _) rfl hJ.more)
    · have q7 := hJ.at 7 (hd 7 (by kernel_rfl)) hn
      obtain ⟨V7, e7⟩ : ∃ V, f2 7 = V := ⟨_, rfl⟩
      rw [e7] at q7
      have e8 : f2 8 = (.pointer (some ⟨w.heap.size + 1 + 1, 1, none⟩)) := hJ.at 8 (hd 8 (by kernel_rfl)) hJ.none
      have hra := hJ.more.1 hn
      obtain ⟨⟨-, y1, -, -, -, -⟩, ⟨-, z1, -, -, -, -⟩⟩ := box6 hra.b2
      obtain ⟨ao7, cap7, hv7⟩ := row_slice q7
      rw [List.length_reverse] at hv7
      subst hv7
      refine wanted_on rfl ?_
      simp only [putAll, Act.put, List.setIfInBounds_toArray, List.set_cons_zero, List.set_cons_succ, e7, e8] at hK ⊢
      go_simp
      obtain ⟨hp, hb⟩ := hra.putP (P3 := .slice ao7 st.ps.length cap7)
      refine hK _ (f2 9) _ rfl (hJ.step (by decide) hb (fun j h2 h3 h4 h5 h6 => ?_) trivial ⟨(fun h10 => by cases h10), fun _ => ⟨_, hp, row_far q7 hra.b2 (by decide) (fun b hb _ => heap_setCell_other _ _ _ _ (by simpa using hb))⟩⟩)
      match j, h3, h6 with
      | 0, _, h6 => exact h6
      | 1, _, h6 => exact h6
      | 2, _, h6 => exact h6
      | 3, _, h6 => exact h6
      | 4, _, h6 => exact row_far h6 hra.b2 (by decide) (fun b hb _ => heap_setCell_other _ _ _ _ (by simpa using hb))
      | 5, _, h6 => exact h6
      | 6, _, h6 => exact h6
      | 7, h3, _ => exact absurd rfl h3
      | 8, _, h6 => exact h6
      | 9, _, _ => exact absurd rfl h2
      | j + 10, _, _ => exact trivial
  · intro f2 d u hJ hall
    obtain ⟨P3, hra, hp1⟩ := hJ.more.2 (hall 9 (by decide))
    have HRA3 := Hid.mk' hra
    have HP1 := Hid.mk' hp1
    obtain ⟨po2, pc2, hP3⟩ := row_slice hp1
    rw [← HN.out.2] at hP3
    subst hP3
    simp only [putAll, Act.put, List.setIfInBounds_toArray, List.set_cons_zero, List.set_cons_succ]
    clear hra hp1 hJ hall hl HRA hmk
    go_wp2_with fail
    go_loopw [4] (fun s4 wr => ∃ (k : Nat) (es : List Fe), k ≤ n ∧ s4 = .int .i64 k ∧ Hid (RA n (.slice fo n fc) (.slice po m pc) fo2 fc2 (.slice po2 m pc2) st w wr es fes k) ∧ Hid (isP1 (w.heap.size + 3) st.ps.reverse (.slice po2 m pc2) wr)) (fun i _ => n - (intOf i).toNat)
    case atStart => exact ⟨0, fes, Nat.zero_le _, rfl, HRA3.out, HP1.out⟩
    case round =>
      obtain ⟨k, es, hk, rfl, HR, HP⟩ := hrel
      obtain ⟨wq, hwq⟩ : ∃ x, x = wr := ⟨_, rfl⟩
      subst hwq
      obtain ⟨⟨c0, c1, c2, c3, c4, c5⟩, -⟩ := box6 HR.out.b2
      by_cases hlt : k < n
      · have hlti : (k : Int) < (n : Int) := by omega
        obtain ⟨e, he⟩ : ∃ e, es[k]? = some e := ⟨es[k]'(by rw [HR.out.len, ← HN.out.1]; exact hlt), List.getElem?_eq_getElem _⟩
        have hef : fes[k]? = some e := by rw [← HR.out.rest k (Nat.le_refl _)]; exact he
        have HE := Hid.mk' he
        have hmem : e ∈ fes := List.mem_of_getElem? hef
        have HIL : Hid (∀ u, Below w.heap.size w u → ILies u e.L e.x.df.reverse) := fun u hu => (HH.out u hu).own e hmem
        have HDL : Hid (e.x.df.reverse.length ≤ 17592186043904) := by have := HDF.out e hmem; show _ ≤ _; omega
        obtain ⟨g, cap, hv, -, -, -, -, -⟩ := own_at Fe.len HR.out.row he
        simp only [Value.slice.injEq] at hv
        obtain ⟨hfo, -, -⟩ := hv
        subst hfo
        obtain ⟨lo, lc, hL⟩ := (HIL.out wq HR.out.up).shape
        have HLE : Hid (e.L = .slice lo e.x.df.reverse.length lc) := hL
        obtain ⟨l, hl0⟩ : ∃ l, l = e.x.df.reverse := ⟨_, rfl⟩
        have HLL : Hid (l = e.x.df.reverse) := hl0
        rw [← hl0] at HLE HIL HDL
        rw [HLE.out] at HIL
        clear he hef hmem hL hl0 HRA3 HP1
        go_wp2_with fail
        have hl : AllStab [isV (.pointer (some ⟨w.heap.size + 1 + 1, 0, none⟩)), isV (.slice (some ⟨g, 0, none⟩) n fc2), isV (.int .i64 k), isV (.pointer (some ⟨w.heap.size + 1 + 1, 0, none⟩)), isV (.slice (some ⟨g, 0, none⟩) n fc2), isV (.int .i64 k), isV (.pointer (some ⟨g, k * 5, none⟩)), isV (.pointer (some ⟨g, k * 5 + 4, none⟩)), isV (.slice lo l.length lc), isRm l, isV (.pointer (some ⟨g, k * 5, none⟩)), isV (.pointer (some ⟨g, k * 5 + 4, none⟩)), anyV] := ⟨stab_is _, stab_is _, stab_is _, stab_is _, stab_is _, stab_is _, stab_is _, stab_is _, stab_is _, stab_rm _, stab_is _, stab_is _, stab_any, trivial⟩
        refine wp_joint (JB [isV (.pointer (some ⟨w.heap.size + 1 + 1, 0, none⟩)), isV (.slice (some ⟨g, 0, none⟩) n fc2), isV (.int .i64 k), isV (.pointer (some ⟨w.heap.size + 1 + 1, 0, none⟩)), isV (.slice (some ⟨g, 0, none⟩) n fc2), isV (.int .i64 k), isV (.pointer (some ⟨g, k * 5, none⟩)), isV (.pointer (some ⟨g, k * 5 + 4, none⟩)), isV (.slice lo l.length lc), isRm l, isV (.pointer (some ⟨g, k * 5, none⟩)), isV (.pointer (some ⟨g, k * 5 + 4, none⟩)), anyV] ([99, 99, 99, 99, 99, 99, 99, 99, 99, 99, 99, 99, 99].getD · 99) (fun d f2 u => (d 12 = false → RA n (.slice fo n fc) (.slice po m pc) (some ⟨g, 0, none⟩) fc2 (.slice po2 m pc2) st w u es fes k ∧ isP1 (w.heap.size + 3) st.ps.reverse (.slice po2 m pc2) u) ∧ (d 12 = true → ∃ L2, RA n (.slice fo n fc) (.slice po m pc) (some ⟨g, 0, none⟩) fc2 (.slice po2 m pc2) st w u (es.set k ⟨e.x, L2⟩) fes (k + 1) ∧ isP1 (w.heap.size + 3) st.ps.reverse (.slice po2 m pc2) u)) (w.heap.size + 1 + 1) wq) (by kernel_rfl) (by kernel_rfl) (by kernel_rfl) (fun f => ⟨(Below.refl _ _).drew, (by have := HR.out.hz; omega), rfl, (fun i h _ => by cases h), ⟨fun _ => ⟨HR.out.below (Below.refl _ _).drew, row_below HP.out (Below.refl _ _).drew⟩, fun h => by cases h⟩⟩) ?_ ?_
        · refine stepsOK5_cons (fun f2 d u hJ hn hd hno K hK => ?_) (stepsOK5_cons (fun f2 d u hJ hn hd hno K hK => ?_) (stepsOK5_cons (fun f2 d u hJ hn hd hno K hK => ?_) (stepsOK5_cons (fun f2 d u hJ hn hd hno K hK => ?_) (stepsOK5_cons (fun f2 d u hJ hn hd hno K hK => ?_) (stepsOK5_cons (fun f2 d u hJ hn hd hno K hK => ?_) (stepsOK5_cons (fun f2 d u hJ hn hd hno K hK => ?_) (stepsOK5_cons (fun f2 d u hJ hn hd hno K hK => ?_) (stepsOK5_cons (fun f2 d u hJ hn hd hno K hK => ?_) (stepsOK5_cons (fun f2 d u hJ hn hd hno K hK => ?_) (stepsOK5_cons (fun f2 d u hJ hn hd hno K hK => ?_) (stepsOK5_cons (fun f2 d u hJ hn hd hno K hK => ?_) (stepsOK5_cons (fun f2 d u hJ hn hd hno K hK => ?_) stepsOK5_nil))))))))))))
          · refine wanted_on rfl ?_
            simp only [putAll, Act.put, List.setIfInBounds_toArray, List.set_cons_zero, List.set_cons_succ] at hK ⊢
            go_simp
            exact hK _ _ _ rfl (hJ.grow hl (by decide) (Below.refl _ _) rfl hJ.more)
          · have e0 : f2 0 = (.pointer (some ⟨w.heap.size + 1 + 1, 0, none⟩)) := hJ.at 0 (hd 0 (by kernel_rfl)) hJ.none
            obtain ⟨⟨y0, -, -, -, -, -⟩, -⟩ := box6 (hJ.more.1 (hno 12 (by kernel_rfl))).1.b2
            refine wanted_on rfl ?_
            simp only [putAll, Act.put, List.setIfInBounds_toArray, List.set_cons_zero, List.set_cons_succ, e0] at hK ⊢
            go_simp
            exact hK _ _ _ rfl (hJ.grow hl (by decide) (Below.refl _ _) rfl hJ.more)
          · refine wanted_on rfl ?_
            simp only [putAll, Act.put, List.setIfInBounds_toArray, List.set_cons_zero, List.set_cons_succ] at hK ⊢
            go_simp
            exact hK _ _ _ rfl (hJ.grow hl (by decide) (Below.refl _ _) rfl hJ.more)
          · refine wanted_on rfl ?_
            simp only [putAll, Act.put, List.setIfInBounds_toArray, List.set_cons_zero, List.set_cons_succ] at hK ⊢
            go_simp
            exact hK _ _ _ rfl (hJ.grow hl (by decide) (Below.refl _ _) rfl hJ.more)
          · have e3 : f2 3 = (.pointer (some ⟨w.heap.size + 1 + 1, 0, none⟩)) := hJ.at 3 (hd 3 (by kernel_rfl)) hJ.none
            obtain ⟨⟨y0, -, -, -, -, -⟩, -⟩ := box6 (hJ.more.1 (hno 12 (by kernel_rfl))).1.b2
            refine wanted_on rfl ?_
            simp only [putAll, Act.put, List.setIfInBounds_toArray, List.set_cons_zero, List.set_cons_succ, e3] at hK ⊢
            go_simp
            exact hK _ _ _ rfl (hJ.grow hl (by decide) (Below.refl _ _) rfl hJ.more)
          · refine wanted_on rfl ?_
            simp only [putAll, Act.put, List.setIfInBounds_toArray, List.set_cons_zero, List.set_cons_succ] at hK ⊢
            go_simp
            exact hK _ _ _ rfl (hJ.grow hl (by decide) (Below.refl _ _) rfl hJ.more)
          · have e4 : f2 4 = (.slice (some ⟨g, 0, none⟩) n fc2) := hJ.at 4 (hd 4 (by kernel_rfl)) hJ.none
            have e5 : f2 5 = (.int .i64 k) := hJ.at 5 (hd 5 (by kernel_rfl)) hJ.none
            refine wanted_on rfl ?_
            simp only [putAll, Act.put, List.setIfInBounds_toArray, List.set_cons_zero, List.set_cons_succ, e4, e5] at hK ⊢
            go_simp
            exact hK _ _ _ rfl (hJ.grow hl (by decide) (Below.refl _ _) rfl hJ.more)
          · have e6 : f2 6 = (.pointer (some ⟨g, k * 5, none⟩)) := hJ.at 6 (hd 6 (by kernel_rfl)) hJ.none
            refine wanted_on rfl ?_
            simp only [putAll, Act.put, List.setIfInBounds_toArray, List.set_cons_zero, List.set_cons_succ, e6] at hK ⊢
            go_simp
            exact hK _ _ _ rfl (hJ.grow hl (by decide) (Below.refl _ _) rfl hJ.more)
          · have e7 : f2 7 = (.pointer (some ⟨g, k * 5 + 4, none⟩)) := hJ.at 7 (hd 7 (by kernel_rfl)) hJ.none
            obtain ⟨g9, c9, hv9, -, -, hc9, -, -⟩ := own_at Fe.len (hJ.more.1 (hno 12 (by kernel_rfl))).1.row HE.out
            simp only [Value.slice.injEq, Option.some.injEq, Addr.mk.injEq] at hv9
            obtain ⟨⟨hg9, -⟩, -⟩ := hv9
            subst hg9
            have y4 := hc9 4 _ rfl
            rw [HLE.out] at y4
            refine wanted_on rfl ?_
            simp only [putAll, Act.put, List.setIfInBounds_toArray, List.set_cons_zero, List.set_cons_succ, e7] at hK ⊢
            go_simp
            exact hK _ _ _ rfl (hJ.grow hl (by decide) (Below.refl _ _) rfl hJ.more)
          · have e8 : f2 8 = (.slice lo l.length lc) := hJ.at 8 (hd 8 (by kernel_rfl)) hJ.none
            refine wanted_on rfl ?_
            simp only [putAll, Act.put, List.setIfInBounds_toArray, List.set_cons_zero, List.set_cons_succ, e8] at hK ⊢
            go_simp
            refine (own_roomy l (.slice lo l.length lc) u (HIL.out u (hJ.more.1 (hno 12 (by kernel_rfl))).1.up) HDL.out).mono ?_
            rintro e1 u1 ⟨rfl, hr, hb⟩
            exact hK _ _ _ rfl (hJ.grow hl (by decide) hb ⟨_, rfl, hr⟩ ⟨fun _ => ⟨(hJ.more.1 (hno 12 (by kernel_rfl))).1.below hb, row_below (hJ.more.1 (hno 12 (by kernel_rfl))).2 hb⟩, (fun h10 => by have h9 : d 12 = true := h10; rw [hno 12 (by kernel_rfl)] at h9; cases h9)⟩)
          · have e1 : f2 1 = (.slice (some ⟨g, 0, none⟩) n fc2) := hJ.at 1 (hd 1 (by kernel_rfl)) hJ.none
            have e2 : f2 2 = (.int .i64 k) := hJ.at 2 (hd 2 (by kernel_rfl)) hJ.none
            refine wanted_on rfl ?_
            simp only [putAll, Act.put, List.setIfInBounds_toArray, List.set_cons_zero, List.set_cons_succ, e1, e2] at hK ⊢
            go_simp
            exact hK _ _ _ rfl (hJ.grow hl (by decide) (Below.refl _ _) rfl hJ.more)
          · have e10 : f2 10 = (.pointer (some ⟨g, k * 5, none⟩)) := hJ.at 10 (hd 10 (by kernel_rfl)) hJ.none
            refine wanted_on rfl ?_
            simp only [putAll, Act.put, List.setIfInBounds_toArray, List.set_cons_zero, List.set_cons_succ, e10] at hK ⊢
            go_simp
            exact hK _ _ _ rfl (hJ.grow hl (by decide) (Below.refl _ _) rfl hJ.more)
          · have q9 := hJ.at 9 (hd 9 (by kernel_rfl)) hJ.none
            obtain ⟨V9, e9⟩ : ∃ V, f2 9 = V := ⟨_, rfl⟩
            rw [e9] at q9
            have e11 : f2 11 = (.pointer (some ⟨g, k * 5 + 4, none⟩)) := hJ.at 11 (hd 11 (by kernel_rfl)) hJ.none
            obtain ⟨r9, hv9, hr9⟩ := q9
            subst hv9
            have hra := (hJ.more.1 hn)
            obtain ⟨g9, c9, hvv, -, -, hc9, hz9, cur9, hcur9⟩ := own_at Fe.len hra.1.row HE.out
            simp only [Value.slice.injEq, Option.some.injEq, Addr.mk.injEq] at hvv
            obtain ⟨⟨hg9, -⟩, -⟩ := hvv
            subst hg9
            have y4 := hc9 4 _ rfl
            have z4 := hz9 (k * 5 + 4)
            rw [HLE.out] at y4
            refine wanted_on rfl ?_
            simp only [putAll, Act.put, List.setIfInBounds_toArray, List.set_cons_zero, List.set_cons_succ, e9, e11] at hK ⊢
            go_simp
            obtain ⟨hs, hb, hkey⟩ := hra.1.step HE.out (L' := .slice (some ⟨r9, 0, none⟩) l.length (l.length + 2)) (by rw [HLL.out]) (by rw [← HLL.out]; exact hr9)
            refine hK _ (f2 12) _ rfl (hJ.step (by decide) hb (fun j h2 h3 h4 h5 h6 => ?_) trivial ⟨(fun h10 => by cases h10), fun _ => ⟨_, hs, row_far hra.2 hcur9 (by decide) (fun b hb _ => heap_setCell_other _ _ _ _ (by simpa using hb))⟩⟩)
            match j, h3, h6 with
            | 0, _, h6 => exact h6
            | 1, _, h6 => exact h6
            | 2, _, h6 => exact h6
            | 3, _, h6 => exact h6
            | 4, _, h6 => exact h6
            | 5, _, h6 => exact h6
            | 6, _, h6 => exact h6
            | 7, _, h6 => exact h6
            | 8, _, h6 => exact h6
            | 9, _, h6 => (obtain ⟨g8, h8, h7⟩ := h6; exact ⟨g8, h8, room_keep h7 (hkey g8 _ _ h7 (by decide))⟩)
            | 10, _, h6 => exact h6
            | 11, _, h6 => exact h6
            | 12, _, _ => exact absurd rfl h2
            | j + 13, _, _ => exact trivial
        · intro f2 d u hJ hall
          obtain ⟨L', hra, hps⟩ := hJ.more.2 (hall 12 (by decide))
          have HRA4 := Hid.mk' hra
          have HP4 := Hid.mk' hps
          simp only [putAll, Act.put, List.setIfInBounds_toArray, List.set_cons_zero, List.set_cons_succ]
          clear hra hps hJ hall hl c0 c1 c2 c3 c4 c5
          go_wp2_with fail
          go_roundw
          case rel => exact ⟨k + 1, _, by omega, by go_num, HRA4.out, HP4.out⟩
          case measure => simp [intOf]; omega
      · have hke : n = k := by omega
        subst hke
        obtain ⟨⟨d0, d1, d2, d3, d4, d5⟩, ⟨f0, f1, f2, f3, f4, f5⟩⟩ := box6 HR.out.b1
        have HFIN : Hid (∃ F' P' es', (Value.agg #[.slice fo2 n fc2, .slice po2 m pc2, .int .i64 st.next, .int .i64 st.ser, .int .i64 st.fin, .int .i64 st.stat]) = .agg #[F', P', .int .i64 st.next, .int .i64 st.ser, .int .i64 st.fin, .int .i64 st.stat] ∧ RmS w.heap.size ((((((wq.setCell ⟨w.heap.size + 1, 0, none⟩ (.slice fo2 n fc2)).setCell ⟨w.heap.size + 1, 1, none⟩ (.slice po2 m pc2)).setCell ⟨w.heap.size + 1, 2, none⟩ (.int .i64 st.next)).setCell ⟨w.heap.size + 1, 3, none⟩ (.int .i64 st.ser)).setCell ⟨w.heap.size + 1, 4, none⟩ (.int .i64 st.fin)).setCell ⟨w.heap.size + 1, 5, none⟩ (.int .i64 st.stat)) F' P' es' st ∧ Below w.heap.size w ((((((wq.setCell ⟨w.heap.size + 1, 0, none⟩ (.slice fo2 n fc2)).setCell ⟨w.heap.size + 1, 1, none⟩ (.slice po2 m pc2)).setCell ⟨w.heap.size + 1, 2, none⟩ (.int .i64 st.next)).setCell ⟨w.heap.size + 1, 3, none⟩ (.int .i64 st.ser)).setCell ⟨w.heap.size + 1, 4, none⟩ (.int .i64 st.fin)).setCell ⟨w.heap.size + 1, 5, none⟩ (.int .i64 st.stat))) := by
          have hr := HR.out
          obtain ⟨hq1, ho, hb⟩ := six_set hr.b1 (.slice fo2 n fc2) (.slice po2 m pc2) (.int .i64 st.next) (.int .i64 st.ser) (.int .i64 st.fin) (.int .i64 st.stat)
          have hes : ∀ e ∈ es, RoomE wq e := fun e he => by
            obtain ⟨j, hj⟩ := List.getElem?_of_mem he
            have hjl := (List.getElem?_eq_some_iff.1 hj).1
            rw [hr.len, ← HN.out.1] at hjl
            exact hr.done j e hjl hj
          have hes2 : ∀ e ∈ es, RoomE ((((((wq.setCell ⟨w.heap.size + 1, 0, none⟩ (.slice fo2 n fc2)).setCell ⟨w.heap.size + 1, 1, none⟩ (.slice po2 m pc2)).setCell ⟨w.heap.size + 1, 2, none⟩ (.int .i64 st.next)).setCell ⟨w.heap.size + 1, 3, none⟩ (.int .i64 st.ser)).setCell ⟨w.heap.size + 1, 4, none⟩ (.int .i64 st.fin)).setCell ⟨w.heap.size + 1, 5, none⟩ (.int .i64 st.stat)) e := fun e he => (hes e he).far hr.b1 (by decide) ho
          have hxs : es.map (·.x) = fes.map (·.x) := by
            refine List.ext_getElem? fun j => ?_
            rw [List.getElem?_map, List.getElem?_map]
            cases hj : es[j]? with
            | none =>
              have h1 := List.getElem?_eq_none_iff.1 hj
              rw [List.getElem?_eq_none (by rw [← hr.len]; exact h1)]
            | some e =>
              obtain ⟨e0, h1, h2⟩ := hr.xs j e hj
              rw [h1]; simp [h2]
          refine ⟨_, _, es, rfl, ⟨?_, by rw [hxs]; exact (HH.out w (Below.refl _ _)).xs, fun e he => ⟨hes2 e he, ?_⟩, ?_⟩, hb _ _ hr.up (by omega)⟩
          · exact row_up (row_far hr.row hr.b1 (by decide) (fun b hb _ => ho b hb)) (by omega)
          · obtain ⟨j, hj⟩ := List.getElem?_of_mem he
            obtain ⟨e0, h3, h4⟩ := hr.xs j e hj
            rw [h4]
            have := HDF.out e0 (List.mem_of_getElem? h3)
            omega
          · exact row_up (row_far (show wq.ownsRow (w.heap.size + 3) 55 7 (.slice po2 m pc2) st.ps.reverse.length (rc Pn.cells st.ps.reverse) from HP.out) hr.b1 (by decide) (fun b hb _ => ho b hb)) (by omega)
        clear hlt
        go_wp2_with fail
        obtain ⟨F', P', es', hv, h1, h3⟩ := HFIN.out
        refine bodyPost_ret (v := .agg #[.slice fo2 n fc2, .slice po2 m pc2, .int .i64 st.next, .int .i64 st.ser, .int .i64 st.fin, .int .i64 st.stat]) (by simp [results, Try.results22, go_sem, d0, d1, d2, d3, d4, d5]) rfl (by first | exact ⟨F', P', es', (by rw [hv]), h1, h3⟩ | exact ⟨F', P', (by rw [hv]), ⟨es', h1⟩, h3⟩)
end Go.Proofs.Ytcnpoldcebdhjaa
