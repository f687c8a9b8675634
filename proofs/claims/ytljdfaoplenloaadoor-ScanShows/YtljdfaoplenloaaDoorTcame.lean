/- A list of tokens that came in. -/
import Derived.Test.YtljdfaoplenloaaDoorShow
import Derived.ProofKit
import Derived.OpenShut
import Derived.Deep.Slices
import Derived.SizedLaws
import Derived.Carry
namespace Go.Proofs.YtljdfaoplenloaaDoor
open Go.ChangeShapes Go.WideShapes Go.ChangeAt Go.RowKit
set_option maxRecDepth 100000
set_option linter.unusedSimpArgs false

theorem Tryd.cellsTok : Tryd.prog.cellsOf 33 = 4 := by kernel_rfl
theorem Tryd.bytesTok : Tryd.prog.bytesOf 33 = 40 := by kernel_rfl
theorem Tryd.cellsInt : Tryd.prog.cellsOf 3 = 1 := by kernel_rfl
theorem Tryd.cellsStrT : Tryd.prog.cellsOf 9 = 1 := by kernel_rfl
def Tj.cells (t : Tj) : List Value := [.int .i64 t.kind, .string t.text, .int .i64 t.line, .int .i64 t.col]
def jcells (l : List Tj) : List Value := l.flatMap Tj.cells
theorem jcells_len (l : List Tj) : (jcells l).length = l.length * 4 := by
  induction l with
  | nil => rfl
  | cons t r ih => simp only [jcells, List.flatMap_cons, List.length_append, List.length_cons] at ih ⊢; rw [ih]; simp [Tj.cells]; omega
theorem jcells_get : ∀ (l : List Tj) (k i : Nat) (t : Tj), i < 4 → l[k]? = some t → (jcells l)[k * 4 + i]? = t.cells[i]?
  | [], k, i, t, _, h => by simp at h
  | x :: r, 0, i, t, hi, h => by
    simp at h
    subst h
    rw [jcells, List.flatMap_cons, List.getElem?_append_left (by simp [Tj.cells]; omega)]
    simp
  | x :: r, k + 1, i, t, hi, h => by
    have := jcells_get r k i t hi (by simpa using h)
    rw [jcells, List.flatMap_cons, List.getElem?_append_right (by simp [Tj.cells]; omega)]
    rw [← this, show (k + 1) * 4 + i - x.cells.length = k * 4 + i by simp [Tj.cells]; omega]
    rfl
theorem jcells_one (l : List Tj) : ∀ u ∈ jcells l, u.oneCell' = true := by
  intro u hu
  unfold jcells at hu
  obtain ⟨t, _, ht⟩ := List.mem_flatMap.1 hu
  simp [Tj.cells] at ht
  rcases ht with rfl | rfl | rfl | rfl <;> rfl
/-- A list of tokens as it came in. -/
def TCame (w : World) (v : Value) (l : List Tj) : Prop :=
  (v = .slice none 0 0 ∧ l = []) ∨ ∃ (a : Addr) (cap : Nat), v = .slice (some a) l.length cap ∧ l.length ≤ cap ∧ (l ≠ [] → a.spot = none) ∧ ∀ (j : Nat) u, (jcells l)[j]? = some u → w.cell? (a.add j) = some u
theorem TCame.below {w w' : World} {v : Value} {l : List Tj} (h : TCame w v l) (hb : Below w.heap.size w w') : TCame w' v l := by
  rcases h with h | ⟨a, cap, h1, h2, h3, h4⟩
  · exact .inl h
  · refine .inr ⟨a, cap, h1, h2, h3, fun k x hk => ?_⟩
    have h0 := h4 k x hk
    rw [hb.cell (World.block_lt_of_cell? _ _ h0)]
    exact h0
/-- Its cells, token by token. -/
theorem TCame.cells {w : World} {v : Value} {l : List Tj} (h : TCame w v l) {k : Nat} {t : Tj} (hk : l[k]? = some t) : ∃ b off cap, v = .slice (some ⟨b, off, none⟩) l.length cap ∧ l.length ≤ cap ∧
    w.cell? ⟨b, off + k * 4, none⟩ = some (.int .i64 t.kind) ∧ w.cell? ⟨b, off + k * 4 + 1, none⟩ = some (.string t.text) ∧ w.cell? ⟨b, off + k * 4 + 2, none⟩ = some (.int .i64 t.line) ∧ w.cell? ⟨b, off + k * 4 + 3, none⟩ = some (.int .i64 t.col) := by
  rcases h with ⟨_, h⟩ | ⟨⟨b, off, spot⟩, cap, h1, h2, h3, h4⟩
  · subst h; simp at hk
  · have := h3 (by rintro rfl; simp at hk)
    simp only at this
    subst this
    refine ⟨b, off, cap, h1, h2, ?_, ?_, ?_, ?_⟩
    · have := h4 (k * 4 + 0) _ (jcells_get l k 0 t (by decide) hk)
      simpa [add_plain] using this
    · have := h4 (k * 4 + 1) _ (jcells_get l k 1 t (by decide) hk)
      simpa [add_plain, Nat.add_assoc] using this
    · have := h4 (k * 4 + 2) _ (jcells_get l k 2 t (by decide) hk)
      simpa [add_plain, Nat.add_assoc] using this
    · have := h4 (k * 4 + 3) _ (jcells_get l k 3 t (by decide) hk)
      simpa [add_plain, Nat.add_assoc] using this
theorem tlies_row {w : World} {v : Value} {l : List Tj} {B : Nat} (h : w.ownsRow B 33 4 v l.length (jcells l)) : TLies w v l := by
  rcases h.2 with ⟨hv, h0⟩ | ⟨g, cap, cur, hv, -, -, hcap, -⟩
  · have : l = [] := List.eq_nil_of_length_eq_zero h0
    subst this
    exact ⟨none, 0, hv, fun h => absurd rfl h⟩
  · refine ⟨some ⟨g, 0, none⟩, cap, hv, fun _ => ⟨?_, g, rfl, fun k t hk => ?_⟩⟩
    · exact hcap
    · have hkl := (List.getElem?_eq_some_iff.1 hk).1
      subst hv
      refine ⟨?_, ?_, ?_, ?_⟩
      · rw [h.cellAt (k * 4) (by omega)]; exact jcells_get l k 0 t (by decide) hk
      · rw [h.cellAt (k * 4 + 1) (by omega)]; exact jcells_get l k 1 t (by decide) hk
      · rw [h.cellAt (k * 4 + 2) (by omega)]; exact jcells_get l k 2 t (by decide) hk
      · rw [h.cellAt (k * 4 + 3) (by omega)]; exact jcells_get l k 3 t (by decide) hk
section
variable {H : Type} {enc : TypeId × Value → H} {W : World}
/-- One token, read. -/
theorem tok_read {fuel : Nat} {cs : List Value} {x : DataW H × List MemPlace} (h : DataW.trod enc Tryd.prog W 0 (fun _ => true) true fuel 33 cs = some x) :
    ∃ t : Tj, cs = t.cells ∧ x.1 = .agg [.lit (.int .i64 t.kind), .lit (.string t.text.data.toList), .lit (.int .i64 t.line), .lit (.int .i64 t.col)] := by
  obtain ⟨xs, n, -, hx, hlen, hxl, hf⟩ := DataW.trod_struct Tryd.underlying33 h
  rw [Tryd.cellsTok] at hlen
  match xs, hxl, cs, hlen with
  | [y0, y1, y2, y3], _, [v0, v1, v2, v3], _ =>
    have g0 : DataW.trod enc Tryd.prog W 0 (fun _ => true) true n 3 (List.take (Tryd.prog.cellsOf 3) [v0, v1, v2, v3]) = some y0 := hf 0 _ rfl
    rw [Tryd.cellsInt] at g0
    have g1 : DataW.trod enc Tryd.prog W 0 (fun _ => true) true n 9 (List.take (Tryd.prog.cellsOf 9) [v1, v2, v3]) = some y1 := hf 1 _ rfl
    rw [Tryd.cellsStrT] at g1
    have g2 : DataW.trod enc Tryd.prog W 0 (fun _ => true) true n 3 (List.take (Tryd.prog.cellsOf 3) [v2, v3]) = some y2 := hf 2 _ rfl
    rw [Tryd.cellsInt] at g2
    have g3 : DataW.trod enc Tryd.prog W 0 (fun _ => true) true n 3 (List.take (Tryd.prog.cellsOf 3) [v3]) = some y3 := hf 3 _ rfl
    rw [Tryd.cellsInt] at g3
    obtain ⟨n0, e0, r0, -⟩ := DataW.trod_int Tryd.underlying3 g0
    obtain ⟨s1, e1, r1, -⟩ := DataW.trod_string Tryd.underlying9 g1
    obtain ⟨n2, e2, r2, -⟩ := DataW.trod_int Tryd.underlying3 g2
    obtain ⟨n3, e3, r3, -⟩ := DataW.trod_int Tryd.underlying3 g3
    simp at e0 e1 e2 e3
    subst e0; subst e1; subst e2; subst e3
    refine ⟨⟨n0, s1, n2, n3⟩, rfl, ?_⟩
    rw [hx, r0, r1, r2, r3]
    rfl
theorem tcame_of {a0 : Option Addr} {len cap fuel : Nat} {x : DataW H × List MemPlace}
    (hf : DataW.trod enc Tryd.prog W 0 (fun _ => true) true fuel 22 [.slice a0 len cap] = some x) :
    ∃ l : List Tj, TCame W (.slice a0 len cap) l ∧ (l = [] ∨ ∃ spare, x.1 = .slice (l.map fun t => .agg [.lit (.int .i64 t.kind), .lit (.string t.text.data.toList), .lit (.int .i64 t.line), .lit (.int .i64 t.col)]) spare) := by
  rcases Deep.open_slice Tryd.underlying22 hf with ⟨hcs, hx⟩ | ⟨a, len', cap', m, n, D, Pl, hcs, _, hl, hm, hmm, hx, hcell⟩
  · simp at hcs
    obtain ⟨rfl, rfl, rfl⟩ := hcs
    exact ⟨[], .inl ⟨rfl, rfl⟩, .inl rfl⟩
  · simp at hcs
    obtain ⟨rfl, rfl, rfl⟩ := hcs
    simp only [if_true] at hmm
    subst hmm
    rw [Tryd.cellsTok] at hcell
    have each : ∀ i, i < len → ∃ t : Tj, (∀ j u, t.cells[j]? = some u → W.cell? ((a.add (i * 4)).add j) = some u) ∧ D i = .agg [.lit (.int .i64 t.kind), .lit (.string t.text.data.toList), .lit (.int .i64 t.line), .lit (.int .i64 t.col)] := fun i hi => by
      obtain ⟨cs', h1, h2⟩ := hcell i (by omega)
      obtain ⟨_, hlen, hc⟩ := World.cells?_some h1
      obtain ⟨t, rfl, hD⟩ := tok_read h2
      refine ⟨t, fun j u hu => ?_, hD⟩
      have hj := (List.getElem?_eq_some_iff.1 hu).1
      rw [hc j (by rw [hlen] at hj; exact hj), hu]
    haveI : Inhabited Tj := ⟨⟨0, ⟨#[]⟩, 0, 0⟩⟩
    obtain ⟨f, hfun⟩ := Deep.choose_lt each
    have hL : ((List.range len).map f).length = len := by simp
    refine ⟨(List.range len).map f, .inr ⟨a, m, by rw [hL], by rw [hL]; exact hl, fun hne => ?_, fun j u hu => ?_⟩, .inr ⟨(List.range (m - len)).map (fun j => D (len + j)), ?_⟩⟩
    · have h0 : 0 < len := by
        rcases Nat.eq_zero_or_pos len with h | h
        · exfalso; apply hne; rw [h]; rfl
        · exact h
      have := World.cell?_spot ((hfun 0 h0).1 0 _ rfl)
      simpa [Addr.add] using this
    · have hj := (List.getElem?_eq_some_iff.1 hu).1
      rw [jcells_len, hL] at hj
      have hk : ((List.range len).map f)[j / 4]? = some (f (j / 4)) := by
        rw [List.getElem?_map, List.getElem?_range (by omega)]; rfl
      have hg := jcells_get _ (j / 4) (j % 4) _ (by omega) hk
      rw [show j / 4 * 4 + j % 4 = j by omega, hu] at hg
      have := (hfun (j / 4) (by omega)).1 (j % 4) u hg.symm
      rwa [Deep.add_add, show j / 4 * 4 + j % 4 = j by omega] at this
    · rw [hx]
      simp only [List.map_map]
      congr 1
      exact List.map_congr_left fun i hi => (hfun i (List.mem_range.1 hi)).2
theorem weightsAll_mem {P : Program} {e : TypeId} : ∀ {ds : List (DataW H)} {d : DataW H} {n : Nat}, d ∈ ds → n ∈ d.weights P e → n ∈ DataW.weightsAll P e ds
  | x :: r, d, n, hd, hn => by
    simp only [DataW.weightsAll, List.mem_append]
    rcases List.mem_cons.1 hd with rfl | h
    · exact .inl hn
    · exact .inr (weightsAll_mem h hn)
/-- What the reach says of them. -/
theorem toks_sized {ts : List TypeId} {ds : List (DataW H)} (h : (DataW.weightsEach Tryd.prog ts ds).all (· ≤ reachBytes) = true) {l : List Tj} {spare : List (DataW H)} (ht : ts[0]? = some 22)
    (hd : ds[0]? = some (.slice (l.map fun t => .agg [.lit (.int .i64 t.kind), .lit (.string t.text.data.toList), .lit (.int .i64 t.line), .lit (.int .i64 t.col)]) spare)) :
    l.length * 40 ≤ 140737488355328 ∧ ∀ t ∈ l, t.text.size ≤ 140737488355328 := by
  have hr := reachBytes_lt
  have e3 : (2 : Nat) ^ 47 = 140737488355328 := by decide
  constructor
  · have := sized_slice h ht hd Tryd.underlying22
    rw [Tryd.bytesTok, List.length_map] at this
    omega
  · intro t htl
    have hm : t.text.data.toList.length ∈ DataW.weights Tryd.prog 22 (.slice (l.map fun t => (.agg [.lit (.int .i64 t.kind), .lit (.string t.text.data.toList), .lit (.int .i64 t.line), .lit (.int .i64 t.col)] : DataW H)) spare) := by
      simp only [DataW.weights, Tryd.underlying22, List.mem_cons, List.mem_append]
      right; left
      refine weightsAll_mem (List.mem_map.2 ⟨t, htl, rfl⟩) ?_
      simp [DataW.weights, Tryd.underlying33, DataW.weightsEach]
    have := List.all_eq_true.1 h _ (DataW.weights_mem_each ht hd _ hm)
    rw [bsize_list] at this
    simp only [decide_eq_true_eq] at this
    omega
end
end Go.Proofs.YtljdfaoplenloaaDoor
