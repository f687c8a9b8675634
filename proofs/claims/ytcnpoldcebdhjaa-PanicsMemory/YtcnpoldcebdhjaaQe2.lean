/- What events come to, one by one: where it lies. -/
import Derived.Test.YtcnpoldcebdhjaaPinv2
namespace Go.Proofs.Ytcnpoldcebdhjaa
open Go.ChangeShapes Go.WideShapes Go.ChangeAt Go.RowKit
set_option maxRecDepth 100000
set_option linter.unusedSimpArgs false
set_option linter.unusedVariables false
theorem Try.infoSt : (Try.prog.info? 26).map (fun i => (i.zero, i.size, i.bytes)) = some (some (.agg #[.slice none 0 0, .slice none 0 0, .int .i64 0, .int .i64 0, .int .i64 0, .int .i64 0]), 6, 80) := by kernel_rfl
theorem Try.infoTls : (Try.prog.info? 37).map (fun i => (i.zero, i.size, i.bytes)) = some (some (.slice none 0 0), 1, 24) := by kernel_rfl
/-- A state and where it lies. -/
structure So where
  st : St
  fo : Option Addr
  fc : Nat
  po : Option Addr
  pc : Nat
  es : List Fe
def So.cells (s : So) : List Value := [.slice s.fo s.es.length s.fc, .slice s.po s.st.ps.length s.pc, .int .i64 s.st.next, .int .i64 s.st.ser, .int .i64 s.st.fin, .int .i64 s.st.stat]
theorem So.len (s : So) : s.cells.length = 6 := rfl
theorem So.one (s : So) : ∀ u ∈ s.cells, u.oneCell' = true := by
  intro u hu
  simp [So.cells] at hu
  rcases hu with rfl | rfl | rfl | rfl | rfl | rfl <;> rfl
/-- What was told, and where it lies. -/
structure To where
  td : List Tl
  to : Option Addr
  tc : Nat
def To.cells (t : To) : List Value := [.slice t.to t.td.length t.tc]
theorem To.len (t : To) : t.cells.length = 1 := rfl
theorem To.one (t : To) : ∀ u ∈ t.cells, u.oneCell' = true := by
  intro u hu
  simp [To.cells] at hu
  subst hu; rfl
/-- A state in memory of its own. -/
structure SOwn (w : World) (s : So) : Prop where
  fr : FRow 0 w (.slice s.fo s.es.length s.fc) s.es s.st.fr.reverse
  ps : w.ownsRow 0 55 7 (.slice s.po s.st.ps.length s.pc) s.st.ps.reverse.length (rc Pn.cells s.st.ps.reverse)
def TOwn (w : World) (t : To) : Prop := w.ownsRow 0 58 7 (.slice t.to t.td.length t.tc) t.td.length (rc Tl.cells t.td)
/-- Blocks of other types stay. -/
def Keeps (t0 : TypeId) (w w' : World) : Prop := ∀ (g : Nat) (cs : Array Value) (t : TypeId), w.heap[g]? = some (.cells cs t (0, 0)) → t ≠ t0 → w'.heap[g]? = some (.cells cs t (0, 0))
theorem Keeps.row {t0 B e s n : Nat} {w w' : World} {v : Value} {xs : List Value} (h : w.ownsRow B e s v n xs) (hk : Keeps t0 w w') (he : e ≠ t0) : w'.ownsRow B e s v n xs := by
  refine ⟨h.1, ?_⟩
  rcases h.2 with h0 | ⟨g, cap, cur, h1, h2, h3, h4⟩
  · exact .inl h0
  · exact .inr ⟨g, cap, cur, h1, h2, hk g cur e h3 he, h4⟩
theorem Keeps.below {t0 : TypeId} {w w' : World} (hb : Below w.heap.size w w') : Keeps t0 w w' := fun g cs t hg _ => by rw [hb.block g (Array.getElem?_eq_some_iff.1 hg).1]; exact hg
theorem Keeps.trans {t0 : TypeId} {w w' w2 : World} (h : Keeps t0 w w') (h2 : Keeps t0 w' w2) : Keeps t0 w w2 := fun g cs t hg ht => h2 g cs t (h g cs t hg ht) ht
theorem Keeps.grown {t0 : TypeId} {w w' : World} {row : Option Nat} (hg : w.grownBy w' row) (hr : ∀ g, row = some g → ∃ cs, w.heap[g]? = some (.cells cs t0 (0, 0))) : Keeps t0 w w' := fun g cs t hc ht => by
  rw [hg.block g (Array.getElem?_eq_some_iff.1 hc).1 (fun e => by obtain ⟨cs2, h2⟩ := hr g e.symm; rw [hc] at h2; simp at h2; exact ht h2.2)]
  exact hc
theorem Keeps.other {t0 : TypeId} {w w' : World} {b : Nat} {cs0 : Array Value} (hb : w.heap[b]? = some (.cells cs0 t0 (0, 0))) (ho : ∀ g, g ≠ b → w'.heap[g]? = w.heap[g]?) : Keeps t0 w w' := fun g cs t hc ht => by
  rw [ho g (fun e => by subst e; rw [hb] at hc; simp at hc; exact ht hc.2.symm)]
  exact hc
theorem SOwn.keeps {t0 : TypeId} {w w' : World} {s : So} (h : SOwn w s) (hk : Keeps t0 w w') (h1 : 53 ≠ t0) (h2 : 3 ≠ t0) (h3 : 55 ≠ t0) : SOwn w' s :=
  ⟨⟨Keeps.row h.fr.row hk h1, fun e he => Keeps.row (h.fr.own e he) hk h2, h.fr.apart, h.fr.xs⟩, Keeps.row h.ps hk h3⟩
theorem SOwn.lies {w : World} {s : So} (h : SOwn w s) : SLies w (.slice s.fo s.es.length s.fc) (.slice s.po s.st.ps.length s.pc) s.es s.st :=
  ⟨lies_own Fe.len h.fr.row, fun e he => (h.fr.own e he).lies, h.fr.xs, lies_own Pn.len h.ps⟩
/-- States, and what was told, one behind the other. -/
structure Pl (sb : Nat) (w0 : World) (v S Al : Value) (evs : List Eo) (ss : List So) (ts : List To) (wr : World) : Prop where
  ev : wr.ownsRow 0 34 6 v evs.length (rc Eo.cells evs)
  srow : wr.ownsRow (sb + 1) 26 6 S ss.length (rc So.cells ss)
  ss : ∀ s ∈ ss, SOwn wr s
  trow : wr.ownsRow 0 37 1 Al ts.length (rc To.cells ts)
  ts : ∀ t ∈ ts, TOwn wr t
  up : Below w0.heap.size w0 wr
theorem Pl.below {sb : Nat} {w0 wr w' : World} {v S Al : Value} {evs : List Eo} {ss : List So} {ts : List To} (h : Pl sb w0 v S Al evs ss ts wr) (hb : Below wr.heap.size wr w') : Pl sb w0 v S Al evs ss ts w' :=
  ⟨row_below h.ev hb, row_below h.srow hb, fun s hs => (h.ss s hs).keeps (Keeps.below (t0 := 26) hb) (by decide) (by decide) (by decide), row_below h.trow hb, fun t ht => row_below (h.ts t ht) hb, h.up.trans (hb.mono h.up.size)⟩
/-- A box of a state is turned. -/
theorem Pl.box {sb b : Nat} {w0 wr w' : World} {v S Al : Value} {evs : List Eo} {ss : List So} {ts : List To} {cs : Array Value} (h : Pl sb w0 v S Al evs ss ts wr) (hb : wr.heap[b]? = some (.cells cs 26 (0, 0))) (ho : ∀ g, g ≠ b → w'.heap[g]? = wr.heap[g]?) (hn : b ≤ sb ∨ S.ownBlock ≠ some b) (hu : Below w0.heap.size w0 w') : Pl sb w0 v S Al evs ss ts w' := by
  have hk := Keeps.other hb ho
  refine ⟨Keeps.row h.ev hk (by decide), row_at h.srow fun g cs' z hg hgo => ho g (fun e => ?_), fun s hs => (h.ss s hs).keeps hk (by decide) (by decide) (by decide), Keeps.row h.trow hk (by decide), fun t ht => Keeps.row (h.ts t ht) hk (by decide), hu⟩
  subst e
  rcases hn with h1 | h1
  · have := (h.srow.lt g hgo).1; omega
  · exact h1 hgo
/-- One more state. -/
theorem Pl.appS {sb : Nat} {w0 wr w' : World} {v S S' Al : Value} {evs : List Eo} {ss : List So} {ts : List To} {s : So} (h : Pl sb w0 v S Al evs ss ts wr) (hg : wr.grownBy w' S.ownBlock) (hr : w'.ownsRow (sb + 1) 26 6 S' (ss ++ [s]).length (rc So.cells (ss ++ [s]))) (hs : SOwn wr s) (hb : w0.heap.size ≤ sb) : Pl sb w0 v S' Al evs (ss ++ [s]) ts w' := by
  have hk : Keeps 26 wr w' := Keeps.grown hg (row_typed h.srow)
  refine ⟨Keeps.row h.ev hk (by decide), hr, fun x hx => ?_, Keeps.row h.trow hk (by decide), fun t ht => Keeps.row (h.ts t ht) hk (by decide), h.up.grown hg (by have := h.up.size; omega) (fun q hq => by have := (h.srow.lt q hq).1; omega)⟩
  rcases List.mem_append.1 hx with h1 | h1
  · exact (h.ss x h1).keeps hk (by decide) (by decide) (by decide)
  · simp at h1; subst h1; exact hs.keeps hk (by decide) (by decide) (by decide)
/-- One more of what was told. -/
theorem Pl.appT {sb : Nat} {w0 wr w' : World} {v S Al Al' : Value} {evs : List Eo} {ss : List So} {ts : List To} {t : To} (h : Pl sb w0 v S Al evs ss ts wr) (hg : wr.grownBy w' Al.ownBlock) (hr : w'.ownsRow w0.heap.size 37 1 Al' (ts ++ [t]).length (rc To.cells (ts ++ [t]))) (ht : TOwn wr t) (hlo : ∀ q, Al.ownBlock = some q → w0.heap.size ≤ q) : Pl sb w0 v S Al' evs ss (ts ++ [t]) w' := by
  have hk : Keeps 37 wr w' := Keeps.grown hg (row_typed h.trow)
  refine ⟨Keeps.row h.ev hk (by decide), Keeps.row h.srow hk (by decide), fun x hx => (h.ss x hx).keeps hk (by decide) (by decide) (by decide), row_up hr (Nat.zero_le _), fun x hx => ?_, h.up.grown hg h.up.size hlo⟩
  rcases List.mem_append.1 hx with h1 | h1
  · exact Keeps.row (h.ts x h1) hk (by decide)
  · simp at h1; subst h1; exact Keeps.row ht hk (by decide)
def trace : St → List Ev → List (St × List Tl)
  | _, [] => []
  | st, e :: r => if st.fin = 0 then st.step [] e :: trace (st.step [] e).1 r else []
theorem trace_end {st : St} {l : List Ev} (h : st.fin ≠ 0) : trace st l = [] := by
  cases l with
  | nil => rfl
  | cons e r => simp [trace, h]
theorem trace_step {st : St} {l : List Ev} {k : Nat} {e : Ev} (h0 : st.fin = 0) (hk : l[k]? = some e) : trace st (l.drop k) = st.step [] e :: trace (st.step [] e).1 (l.drop (k + 1)) := by
  have hkl := (List.getElem?_eq_some_iff.1 hk).1
  have he := (List.getElem?_eq_some_iff.1 hk).2
  rw [List.drop_eq_getElem_cons hkl, he]
  simp [trace, h0]
end Go.Proofs.Ytcnpoldcebdhjaa
