/- A map literal whose entries are laid in whatever order. -/
import Derived.Test.YtncjaohiimenaaaDoorSteady3
import Derived.Maps.Own
import Derived.Carry
namespace Go.Proofs.YtncjaohiimenaaaDoor
open Go.RowKit Go.MapKept Go.ChangeMaps
set_option linter.unusedSimpArgs false
set_option linter.unusedVariables false

/-- What a look-up of each number says. -/
def MapInv (es : Array MapEntry) (ins : Int → Option Value) : Prop := ∀ n : Int, ∃ r, Instr.findNow (.int .i64) (.int .i64 n) es.toList 0 = some r ∧ r.map Prod.snd = ins n
theorem find_push (n m : Int) (v : Value) (c : Nat) : ∀ (l : List MapEntry) (i : Nat) (r : Option (Nat × Value)), Instr.findNow (.int .i64) (.int .i64 n) l i = some r →
    ∃ r', Instr.findNow (.int .i64) (.int .i64 n) (l ++ [{ key := .int .i64 m, val := v, born := c }]) i = some r' ∧ r'.map Prod.snd = (if r = none then (if n = m then some v else none) else r.map Prod.snd)
  | [], i, r, h => by
    simp only [Instr.findNow] at h
    cases h
    by_cases hnm : n = m
    · subst hnm
      exact ⟨some (i, v), by simp [Instr.findNow, Instr.sameNow], by simp⟩
    · have hq : (n == m) = false := by simpa using hnm
      exact ⟨none, by simp [Instr.findNow, Instr.sameNow, hq], by simp [hnm]⟩
  | e :: l, i, r, h => by
    simp only [Instr.findNow, List.cons_append] at h ⊢
    split at h
    · rename_i he
      cases h
      exact ⟨some (i, e.val), rfl, by simp⟩
    · rename_i he
      obtain ⟨r', h1, h2⟩ := find_push n m v c l (i + 1) r h
      exact ⟨r', h1, h2⟩
    · cases h
theorem MapInv.nil : MapInv #[] (fun _ => none) := fun n => ⟨none, rfl, rfl⟩
theorem MapInv.push {es : Array MapEntry} {ins : Int → Option Value} (h : MapInv es ins) {m : Int} {v : Value} {c : Nat} (hm : ins m = none) : MapInv (es.push { key := .int .i64 m, val := v, born := c }) (fun n => if n = m then some v else ins n) := fun n => by
  obtain ⟨r, h1, h2⟩ := h n
  obtain ⟨r', h3, h4⟩ := find_push n m v c es.toList 0 r h1
  refine ⟨r', by rw [Array.toList_push]; exact h3, ?_⟩
  rw [h4]
  by_cases hnm : n = m
  · subst hnm
    rw [hm] at h2
    have : r = none := by cases r with
      | none => rfl
      | some p => cases h2
    simp [this]
  · by_cases hr : r = none
    · subst hr; simp [hnm]; rw [← h2]; rfl
    · simp [hnm, hr, h2]
theorem MapInv.absent {es : Array MapEntry} {ins : Int → Option Value} (h : MapInv es ins) {m : Int} (hm : ins m = none) : Instr.findNow (.int .i64) (.int .i64 m) es.toList 0 = some none := by
  obtain ⟨r, h1, h2⟩ := h m
  rw [hm] at h2
  cases r with
  | none => exact h1
  | some p => cases h2
theorem insert_run {P : Program} {T K E : TypeId} (hT : P.underlying T = some (.map K E)) (hK : P.underlying K = some (.int .i64)) {u : World} {b : Nat} {es : Array MapEntry} {c : Nat} (hb : u.heap[b]? = some (.map es c)) (m : Int) (v : Value)
    (hnew : Instr.findNow (.int .i64) (.int .i64 m) es.toList 0 = some none) :
    (Instr.mapUpdate T (.map (some b)) (.int .i64 m) v).run P u = .ok () (setBlock u b (.map (es.push { key := .int .i64 m, val := v, born := c }) (c + 1))) := by
  have hk : IsKey (.int .i64) (.int .i64 m) := by simp [IsKey]
  simp [Instr.mapUpdate, run_underlying hT, MapKept.run_getObj_map hb, run_checkKey hK hk, run_findKey hK hnew, MapKept.run_setObj_map _ hb, Result.andThen, setBlock]
theorem lookup_run {P : Program} {T K E : TypeId} (hT : P.underlying T = some (.map K E)) (hK : P.underlying K = some (.int .i64)) {u : World} {b : Nat} {es : Array MapEntry} {c : Nat} (hb : u.heap[b]? = some (.map es c)) (m : Int) {z : Value} (hz : ∀ w, (zeroValue E).run P w = .ok z w)
    {ins : Int → Option Value} (h : MapInv es ins) : (Instr.lookup T (.map (some b)) (.int .i64 m) false).run P u = .ok ((ins m).getD z) u := by
  have hk : IsKey (.int .i64) (.int .i64 m) := by simp [IsKey]
  obtain ⟨r, h1, h2⟩ := h m
  rw [← h2]
  cases r with
  | none => simp [Instr.lookup, run_underlying hT, MapKept.run_getObj_map hb, run_checkKey hK hk, run_findKey hK h1, hz, Result.andThen]
  | some p => simp [Instr.lookup, run_underlying hT, MapKept.run_getObj_map hb, run_checkKey hK hk, run_findKey hK h1, hz, Result.andThen]
/-- A region that lays a map: what holds while it goes on. -/
structure MapG (pv : Nat → Value → Prop) (ins : (Nat → Bool) → Int → Option Value) (w : World) (ox : Obj) (d : Nat → Bool) (f : Nat → Value) (u : World) : Prop where
  box : u.heap[w.heap.size]? = some ox
  below : Below w.heap.size w u
  vals : ∀ k, d k = true → pv k (f k)
  map : d 0 = true → ∃ b es c, f 0 = .map (some b) ∧ w.heap.size < b ∧ u.heap[b]? = some (.map es c) ∧ MapInv es (ins d)
section
variable {pv : Nat → Value → Prop} {ins : (Nat → Bool) → Int → Option Value} {w u u' : World} {ox : Obj} {d : Nat → Bool} {f : Nat → Value}
theorem upd_ne {i k : Nat} {v : Value} (h : i ≠ k) : upd f k v i = f i := by simp only [upd]; rw [if_neg h]
theorem upd_eq {k : Nat} {v : Value} : upd f k v k = v := by simp [upd]
theorem updB_ne' {i k : Nat} (h : i ≠ k) : updB d k i = d i := by simp only [updB]; rw [if_neg h]
theorem vals_upd (h : ∀ k, d k = true → pv k (f k)) {k : Nat} {v : Value} (hv : pv k v) : ∀ j, updB d k j = true → pv j (upd f k v j) := fun j hj => by
  by_cases hjk : j = k
  · subst hjk; rw [upd_eq]; exact hv
  · rw [upd_ne hjk]; rw [updB_ne' hjk] at hj; exact h j hj
theorem MapG.grow (h : MapG pv ins w ox d f u) (k : Nat) {v : Value} (hk : 0 ≠ k) (hi : ins (updB d k) = ins d) (hv : pv k v) (hb : Below u.heap.size u u') : MapG pv ins w ox (updB d k) (upd f k v) u' := by
  have hs : w.heap.size < u.heap.size := (Array.getElem?_eq_some_iff.1 h.box).1
  refine ⟨(hb.block _ hs).trans h.box, h.below.trans (hb.mono h.below.size), vals_upd h.vals hv, fun e => ?_⟩
  rw [updB_ne' hk] at e
  obtain ⟨b, es, c, e1, e2, e3, e4⟩ := h.map e
  exact ⟨b, es, c, by rw [upd_ne hk]; exact e1, e2, by rw [hb.block _ (Array.getElem?_eq_some_iff.1 e3).1]; exact e3, by rw [hi]; exact e4⟩
theorem MapG.make (h : MapG pv ins w ox d f u) (hv : pv 0 (.map (some u.heap.size))) (hi : ins (updB d 0) = fun _ => none) : MapG pv ins w ox (updB d 0) (upd f 0 (.map (some u.heap.size))) (u.alloc (.map #[] 0)) := by
  have hs : w.heap.size < u.heap.size := (Array.getElem?_eq_some_iff.1 h.box).1
  have hb : Below u.heap.size u (u.alloc (.map #[] 0)) := (Below.refl _ _).alloc (Nat.le_refl _) _
  refine ⟨(hb.block _ hs).trans h.box, h.below.trans (hb.mono h.below.size), vals_upd h.vals hv, fun _ => ⟨u.heap.size, #[], 0, upd_eq, hs, ?_, by rw [hi]; exact MapInv.nil⟩⟩
  show (u.heap.push _)[u.heap.size]? = some _
  exact Array.getElem?_push_size
theorem MapG.insert (h : MapG pv ins w ox d f u) (i : Nat) (hi0 : 0 ≠ i) {b : Nat} {es : Array MapEntry} {c : Nat} {m : Int} {v v0 : Value} (e1 : f 0 = .map (some b)) (e2 : w.heap.size < b) (e3 : u.heap[b]? = some (.map es c)) (e4 : MapInv es (ins d)) (hn : ins d m = none)
    (hi : ins (updB d i) = fun n => if n = m then some v else ins d n) (hv : pv i v0) : MapG pv ins w ox (updB d i) (upd f i v0) (setBlock u b (.map (es.push { key := .int .i64 m, val := v, born := c }) (c + 1))) := by
  obtain ⟨g1, g2⟩ := heap_set (o' := .map (es.push { key := .int .i64 m, val := v, born := c }) (c + 1)) e3
  refine ⟨(g2 _ (by omega)).trans h.box, h.below.trans ⟨rfl, rfl, rfl, by simp [setBlock], fun k hk => g2 k (by omega)⟩, vals_upd h.vals hv, fun _ => ⟨b, _, _, by rw [upd_ne hi0]; exact e1, e2, g1, by rw [hi]; exact e4.push hn⟩⟩
end
end Go.Proofs.YtncjaohiimenaaaDoor
