/- Lists of tokens in memory that are written, and what lies apart from them. -/
import Derived.Test.YtljdfaoplenloaaDoorThree
import Derived.Test.YtljdfaoplenloaaDoorShow
import Derived.Test.YtljdfaoplenloaaDoorPlaces
import Derived.Maps.AppendAt
import Derived.Laws.CopyRow
import Derived.Deep.QuietTactic
import Derived.BigQuiet
namespace Go.Proofs.YtljdfaoplenloaaDoor
open Go.ChangeShapes Go.WideShapes Go.ChangeAt Go.RowKit
set_option maxRecDepth 100000
set_option linter.unusedSimpArgs false
set_option linter.unusedVariables false

theorem tcells_get : ∀ {l : List Tk} {k : Nat} {t : Tk}, l[k]? = some t → ∀ i, i < 4 → (tcells l)[k * 4 + i]? = t.cells[i]?
  | [], k, t, h, i, hi => by simp at h
  | a :: l, 0, t, h, i, hi => by
    simp at h; subst h
    have e : tcells (a :: l) = a.cells ++ tcells l := by simp [tcells]
    rw [e, List.getElem?_append_left (by simp [Tk.cells]; omega)]; simp
  | a :: l, k + 1, t, h, i, hi => by
    have e : tcells (a :: l) = a.cells ++ tcells l := by simp [tcells]
    have hc : a.cells.length = 4 := by simp [Tk.cells]
    have ih := tcells_get (l := l) (k := k) (t := t) (by simpa using h) i hi
    rw [e, List.getElem?_append_right (by rw [hc]; omega), hc, show (k + 1) * 4 + i - 4 = k * 4 + i by omega]
    exact ih
theorem row_tok {w : World} {B k cap : Nat} {ao : Option Addr} {l : List Tk} {t : Tk} (h : w.ownsRow B 33 4 (.slice ao l.length cap) l.length (tcells l)) (hk : l[k]? = some t) :
    ∃ g, ao = some ⟨g, 0, none⟩ ∧ w.cell? ⟨g, k * 4, none⟩ = some (.int .i64 t.kind) ∧ w.cell? ⟨g, k * 4 + 1, none⟩ = some (.string t.text) ∧ w.cell? ⟨g, k * 4 + 2, none⟩ = some (.int .i64 t.line) ∧ w.cell? ⟨g, k * 4 + 3, none⟩ = some (.int .i64 t.col) := by
  have hlt : k < l.length := (List.getElem?_eq_some_iff.1 hk).1
  rcases h.2 with ⟨hv, h0⟩ | ⟨g, c, cur, hv, _⟩
  · omega
  · simp only [Value.slice.injEq] at hv
    obtain ⟨rfl, -, rfl⟩ := hv
    refine ⟨g, rfl, ?_, ?_, ?_, ?_⟩
    · rw [h.cellAt (k * 4) (by omega)]; exact tcells_get hk 0 (by decide)
    · rw [h.cellAt (k * 4 + 1) (by omega)]; exact tcells_get hk 1 (by decide)
    · rw [h.cellAt (k * 4 + 2) (by omega)]; exact tcells_get hk 2 (by decide)
    · rw [h.cellAt (k * 4 + 3) (by omega)]; exact tcells_get hk 3 (by decide)
theorem row_len {w : World} {B n : Nat} {v : Value} {xs : List Value} (h : w.ownsRow B 33 4 v n xs) : n ≤ maxLen := by
  rcases h.2 with ⟨_, h0⟩ | ⟨g, c, cur, hv, _, _, h1, h2, _⟩
  · omega
  · omega
/-- What Tokens answers, in one. -/

theorem run_len {src : ByteArray} {e : Sc} : ∀ (f : Nat) (s : Sc), s.Ok src → runR src f s = .ok e → e.ts.length ≤ 2000
  | 0, s, ho, h => by rw [runR] at h; cases h; exact ho.len
  | f + 1, s, ho, h => by
    rw [runR] at h
    split at h
    · rename_i hp
      cases hs : s.stepR (src.extract s.pos src.size) (rest_pos hp) with
      | ok s1 => rw [hs] at h; exact run_len f s1 (step_ok ho hp hs).1 h
      | bad c' l' m' => rw [hs] at h; cases h
    · exact closeR_len h ho.len
theorem tok_len {src : ByteArray} {e : Sc} (h : tokR src = .ok e) : e.ts.length ≤ 2000 := by
  unfold tokR at h
  split at h
  · cases h
  · exact run_len _ sc0 (sc0_ok (by omega)) h
/-- The tokens, and what is told beside them. -/
def rts : Res → List Tk | .ok s => s.ts | .bad _ _ _ => []
def rsp : Res → Int × Int × Int | .ok _ => (0, 0, 0) | .bad c ln cl => (c, ln, cl)
theorem rts_len (src : ByteArray) : (rts (tokR src)).length ≤ 2000 := by
  cases h : tokR src with
  | ok s => exact tok_len h
  | bad c ln cl => simp [rts]
theorem told_same {w w' : World} {R : Res} {e : Ending} (h : Told w R e w') : Below w.heap.size w w' ∧ ∃ (ao : Option Addr) (cap : Nat), e = .returned (.tuple #[.slice ao (rts R).length cap, .agg #[.int .i64 (rsp R).1, .int .i64 (rsp R).2.1, .int .i64 (rsp R).2.2]]) ∧
    w'.ownsRow w.heap.size 33 4 (.slice ao (rts R).length cap) (rts R).length (tcells (rts R)) := by
  obtain ⟨hb, h⟩ := h
  refine ⟨hb, ?_⟩
  cases R with
  | bad c ln cl => exact ⟨none, 0, h, World.ownsRow_nil _ _ _ _⟩
  | ok s =>
    obtain ⟨v, rfl, hown⟩ := h
    rcases hown.2 with ⟨hv, h0⟩ | ⟨g, c, cur, hv, _⟩
    · exact ⟨none, 0, by rw [hv]; show _ = Ending.returned (.tuple #[.slice none s.ts.length 0, _]); rw [h0]; rfl, by rw [hv] at hown; show w'.ownsRow _ _ _ (.slice none s.ts.length 0) s.ts.length (tcells s.ts); rw [h0] at hown ⊢; exact hown⟩
    · exact ⟨_, _, by rw [hv]; rfl, by rw [hv] at hown; exact hown⟩
/-- A token, as it lies. -/
def TokAt (w : World) (g k : Nat) (t : Tk) : Prop := w.cell? ⟨g, k * 4, none⟩ = some (.int .i64 t.kind) ∧ w.cell? ⟨g, k * 4 + 1, none⟩ = some (.string t.text) ∧ w.cell? ⟨g, k * 4 + 2, none⟩ = some (.int .i64 t.line) ∧ w.cell? ⟨g, k * 4 + 3, none⟩ = some (.int .i64 t.col)
theorem TokAt.same {w w' : World} {g k : Nat} {t : Tk} (h : TokAt w g k t) (hb : w'.heap[g]? = w.heap[g]?) : TokAt w' g k t := by
  unfold TokAt at *
  rw [World.cell?_of_block (a := ⟨g, k * 4, none⟩) hb, World.cell?_of_block (a := ⟨g, k * 4 + 1, none⟩) hb, World.cell?_of_block (a := ⟨g, k * 4 + 2, none⟩) hb, World.cell?_of_block (a := ⟨g, k * 4 + 3, none⟩) hb]
  exact h
theorem TokAt.lt {w : World} {g k : Nat} {t : Tk} (h : TokAt w g k t) : g < w.heap.size := World.block_lt_of_cell? _ _ h.1
theorem tok_form {w : World} {B n : Nat} {v : Value} {xs : List Value} (h : w.ownsRow B 33 4 v n xs) (hn : 0 < n) : ∃ g cap, v = .slice (some ⟨g, 0, none⟩) n cap ∧ B ≤ g ∧ g < w.heap.size := by
  rcases h.2 with ⟨_, h0⟩ | ⟨g, cap, cur, h1, hb, hh, _⟩
  · omega
  · exact ⟨g, cap, h1, hb, (Array.getElem?_eq_some_iff.1 hh).1⟩
theorem tok_slice2 {w : World} {B n : Nat} {v : Value} {xs : List Value} (h : w.ownsRow B 33 4 v (n + 2) xs) : ∃ g cap, v = .slice (some ⟨g, 0, none⟩) (n + 2) cap := by
  rcases h.2 with ⟨_, h⟩ | ⟨g3, cap3, _, h, _⟩
  · omega
  · exact ⟨g3, cap3, h⟩
theorem tok_slice0 {w : World} {B n : Nat} {v : Value} {xs : List Value} (h : w.ownsRow B 33 4 v (0 + n) ([] ++ xs)) : ∃ (ao : Option Addr) (cv : Nat), v = .slice ao n cv ∧ w.ownsRow B 33 4 (.slice ao n cv) n xs := by
  rw [Nat.zero_add, List.nil_append] at h
  rcases h.2 with ⟨h1, h0⟩ | ⟨g, cap, cur, h1, _⟩
  · subst h1 h0; exact ⟨none, 0, rfl, h⟩
  · subst h1; exact ⟨_, _, rfl, h⟩
theorem tok_apart {w w' : World} {B n : Nat} {v : Value} {xs : List Value} {row : Option Nat} (h : w.ownsRow B 33 4 v n xs) (hg : w.grownBy w' row) (hr : ∀ q, row = some q → q < B) : w'.ownsRow B 33 4 v n xs := by
  refine h.kept hg ?_
  cases hq : v.ownBlock with
  | none => exact .inl rfl
  | some q =>
    right
    intro e
    have h1 := (h.lt q hq).1
    have h2 := hr q e.symm
    omega
theorem row_eight (w : World) (c : List Value) (hc : c.length = 8) (t : TypeId) : ∀ j u, c[j]? = some u → (w.alloc (.cells c.toArray t)).cell? ((⟨w.heap.size, 0, none⟩ : Addr).add j) = some u := fun j u hj => cells_new w c t j u hj
/-- Two lists that lie apart read as they did behind all that is written into a third. -/
theorem tok_fin {w w1 w3 w4 wr w5 : World} {ts : List Tk} {g5 cap5 : Nat} {va : Value} {bo wo : Option Addr} {cb cw : Nat} {o : Obj} {ys news : List Value}
    (hs1 : w.heap.size ≤ w1.heap.size) (hs3 : w1.heap.size ≤ w3.heap.size) (hAL : ∀ q, va.ownBlock = some q → w.heap.size ≤ q ∧ q < w1.heap.size)
    (hW3 : Below w.heap.size w w3) (hB3 : w3.ownsRow w1.heap.size 33 4 (.slice bo ts.length cb) ts.length (tcells ts)) (hg4 : w3.grownBy w4 none) (hW4 : w4.ownsRow w3.heap.size 33 4 (.slice wo ts.length cw) ts.length (tcells ts))
    (hgr : w4.grownBy wr va.ownBlock) (hown : w5.ownsRow w.heap.size 33 4 (.slice (some ⟨g5, 0, none⟩) (ts.length + 2) cap5) (ts.length + 2) (ys ++ news)) (hg5 : (wr.alloc o).grownBy w5 va.ownBlock)
    (hat : (Value.slice (some ⟨g5, 0, none⟩) (ts.length + 2) cap5).ownBlock = va.ownBlock ∨ (Value.slice (some ⟨g5, 0, none⟩) (ts.length + 2) cap5).ownBlock = some (wr.alloc o).heap.size) :
    (∃ u, w5.cell? ⟨g5, 0, none⟩ = some u) ∧ w5.frozen? ⟨g5, 0, none⟩ = false ∧ Below w.heap.size w (w5.setCell ⟨g5, 0, none⟩ (.int .i64 99)) ∧
      (∀ j t, ts[j]? = some t → ∃ gb gw, bo = some ⟨gb, 0, none⟩ ∧ wo = some ⟨gw, 0, none⟩ ∧ TokAt (w5.setCell ⟨g5, 0, none⟩ (.int .i64 99)) gb j t ∧ TokAt (w5.setCell ⟨g5, 0, none⟩ (.int .i64 99)) gw j t) ∧
      (w5.setCell ⟨g5, 0, none⟩ (.int .i64 99)).ownsRow w1.heap.size 33 4 (.slice bo ts.length cb) ts.length (tcells ts) := by
  have h4 : w3.heap.size ≤ w4.heap.size := hg4.size
  have h5 : w4.heap.size ≤ wr.heap.size := hgr.size
  have hz : (wr.alloc o).heap.size = wr.heap.size + 1 := by simp
  have hwa : w4.grownBy (wr.alloc o) va.ownBlock := hgr.trans (World.grownBy_alloc _ _ _)
  have hw45 := hwa.trans hg5
  have hBx : ∀ q, (Value.slice bo ts.length cb).ownBlock = some q → w1.heap.size ≤ q ∧ q < w3.heap.size := fun q hq => hB3.lt q hq
  refine ⟨?_, hown.frozenAt 0, ?_, fun j t hj => ?_, ?_⟩
  · rw [hown.cellAt 0 (by omega)]
    have := hown.1
    exact ⟨_, List.getElem?_eq_getElem (by omega)⟩
  · have b4 : Below w.heap.size w w4 := hW3.trans ⟨hg4.os, hg4.tape, hg4.output, hg4.size, fun k hk => hg4.block k (by omega) (by simp)⟩
    exact (b4.grown hw45 (by omega) (fun q hq => (hAL q hq).1)).setCell (hown.lt g5 rfl).1 _
  · have hlt : j < ts.length := (List.getElem?_eq_some_iff.1 hj).1
    obtain ⟨gb, capb, e1, hb1, hb2⟩ := tok_form hB3 (by omega)
    obtain ⟨gw, capw, e2, hw1, hw2⟩ := tok_form hW4 (by omega)
    cases e1
    cases e2
    have hne : g5 ≠ gb ∧ g5 ≠ gw := by
      rcases hat with h | h
      · have := (hAL g5 h.symm).2; omega
      · simp only [Value.ownBlock, Option.some.injEq] at h; omega
    have hB4 := hB3.kept hg4 (.inr (by simp [Value.ownBlock]))
    have hB5 := hB4.kept hw45 (.inr (fun h => by have := (hAL gb h.symm).2; omega))
    have hW5 := hW4.kept hw45 (.inr (fun h => by have := (hAL gw h.symm).2; omega))
    obtain ⟨g1, eg1, q⟩ := row_tok hB5 hj
    obtain ⟨g2, eg2, r⟩ := row_tok hW5 hj
    cases eg1
    cases eg2
    exact ⟨gb, gw, rfl, rfl, TokAt.same (w := w5) q (Below.heap_setCell _ _ _ _ (fun h => hne.1 h.symm)), TokAt.same (w := w5) r (Below.heap_setCell _ _ _ _ (fun h => hne.2 h.symm))⟩
  · have hB4 := hB3.kept hg4 (by cases hq : (Value.slice bo ts.length cb).ownBlock with | none => exact .inl rfl | some q => right; simp)
    have hB5 := hB4.kept hw45 (by cases hq : (Value.slice bo ts.length cb).ownBlock with | none => exact .inl rfl | some q => right; intro e; have h1 := hBx q hq; have h2 := hAL q e.symm; omega)
    refine hB5.kept (row := some g5) ⟨rfl, rfl, rfl, by simp [World.setCell], fun k _ hk => Below.heap_setCell _ _ _ _ (fun e => hk (by rw [e]))⟩ ?_
    cases hq : (Value.slice bo ts.length cb).ownBlock with
    | none => exact .inl rfl
    | some q =>
      right
      intro e
      have h1 := hBx q hq
      cases e
      rcases hat with h | h
      · have := (hAL g5 h.symm).2; omega
      · simp only [Value.ownBlock, Option.some.injEq] at h; omega
theorem run_copy_toks {P : Program} (w : World) (dT sT ty elem : TypeId) (g dLen dCap : Nat) (a : Addr) (sLen sCap : Nat) (cur : Array Value) (t : TypeId) (cs : List Value)
    (hu : P.underlying dT = some (.slice elem)) (hs : (P.info? elem).map (·.size) = some 4)
    (hg : w.heap[g]? = some (.cells cur t (0, 0))) (hn : cs.length = Nat.min sLen dLen * 4)
    (hsrc : ∀ j v, cs[j]? = some v → w.cell? (a.add j) = some v) (hfit : cs.length ≤ cur.size) (h1 : ∀ v ∈ cs, v.oneCell' = true) :
    (Builtin.copy_ #[dT, sT] ty #[.slice (some ⟨g, 0, none⟩) dLen dCap, .slice (some a) sLen sCap]).run P w =
      .ok (goInt (Nat.min sLen dLen)) (w.setRow g (cs ++ cur.toList.drop cs.length).toArray) := by
  have hl := run_loadCells_list (P := P) w a cs hsrc
  have hst := run_storeCells_at P g 0 t cs 0 cur w hg (by simpa using hfit) h1
  cases hq : P.info? elem with
  | none => simp [hq] at hs
  | some i =>
    have hi : i.size = 4 := by simpa [hq] using hs
    simp [Builtin.copy_, run_underlying hu, Builtin.lenOf, Builtin.firstCells, sizeOf, typeInfo, hq, hi, ← hn, hl, hst]
end Go.Proofs.YtljdfaoplenloaaDoor
