/- A value that came in. -/
import Derived.Test.YtncjaohiimenaabDoorRows
import Derived.WalkKit
import Derived.ProofKit
import Derived.OpenShut
import Derived.Handy
import Derived.SizedLaws
import Derived.Carry
import Derived.Deep.Slices
import Derived.Lib.SmallJoins
import Derived.Laws.AppendOwnNone
namespace Go.Proofs.YtncjaohiimenaabDoor
open Go.ChangeShapes Go.WideShapes Go.ChangeAt Go.RowKit
set_option maxRecDepth 100000
set_option linter.unusedSimpArgs false

theorem Tryd.cellsIntV : Tryd.prog.cellsOf 3 = 1 := by kernel_rfl
theorem Tryd.bytesIntV : Tryd.prog.bytesOf 3 = 8 := by kernel_rfl
theorem Tryd.cellsVal : Tryd.prog.cellsOf 25 = 4 := by kernel_rfl
/-- A value's parts. -/
structure Vv where
  kind : Int
  n : Int
  s : ByteArray
  l : List Int
/-- A list of numbers that lies somewhere. -/
def ILies (w : World) (v : Value) (l : List Int) : Prop :=
  (v = .slice none 0 0 ∧ l = []) ∨ ∃ (a : Addr) (cap : Nat), v = .slice (some a) l.length cap ∧ l.length ≤ cap ∧ cap ≤ maxLen ∧ (l ≠ [] → a.spot = none) ∧ ∀ (k : Nat) i, l[k]? = some i → w.cell? (a.add k) = some (.int .i64 i)
theorem ILies.shape {w : World} {v : Value} {l : List Int} (h : ILies w v l) : ∃ ao cap, v = .slice ao l.length cap := by
  rcases h with ⟨h, rfl⟩ | ⟨a, cap, h, _⟩
  · exact ⟨none, 0, h⟩
  · exact ⟨_, _, h⟩
theorem ILies.below {w w' : World} {v : Value} {l : List Int} {B : Nat} (h : ILies w v l) (hb : Below B w w') (hB : w.heap.size ≤ B) : ILies w' v l := by
  rcases h with h | ⟨a, cap, h1, h2, h3, h4, h5⟩
  · exact .inl h
  · refine .inr ⟨a, cap, h1, h2, h3, h4, fun k x hk => ?_⟩
    have h0 := h5 k x hk
    rw [hb.cell (Nat.lt_of_lt_of_le (World.block_lt_of_cell? _ _ h0) hB)]
    exact h0
theorem ILies.row {w : World} {v : Value} {l : List Int} {B : Nat} (h : w.ownsRow B 3 1 v l.length (l.map (Value.int .i64))) : ILies w v l := by
  rcases h.2 with ⟨hv, h0⟩ | ⟨g, cap, cur, hv, -, -, hcap, hmax, -⟩
  · have : l = [] := List.eq_nil_of_length_eq_zero h0
    subst this
    exact .inl ⟨hv, rfl⟩
  · refine .inr ⟨⟨g, 0, none⟩, cap, hv, hcap, hmax, fun _ => rfl, fun k i hk => ?_⟩
    have hkl := (List.getElem?_eq_some_iff.1 hk).1
    subst hv
    rw [add_plain, Nat.zero_add, h.cellAt k (by omega)]
    rw [List.getElem?_map, hk]; rfl
/-- What is known of a value that came in. -/
structure VIn (x : Vv) : Prop where
  wk : (Lit.int .i64 x.kind).wf = true
  wn : (Lit.int .i64 x.n).wf = true
  ws : x.s.size ≤ 140737488351232
  wl : ∀ i ∈ x.l, (Lit.int .i64 i).wf = true
  sz : x.l.length * 8 ≤ 140737488351232
def vval (x : Vv) (L : Value) : Value := .agg #[.int .i64 x.kind, .int .i64 x.n, .string x.s, L]
theorem bsize_list' (s : ByteArray) : s.data.toList.length = s.size := Array.length_toList
section
variable {H : Type} {enc : TypeId × Value → H} {W : World}
theorem weightsEach_at {P : Program} : ∀ {ts : List TypeId} {ds : List (DataW H)} {j : Nat} {t : TypeId} {d : DataW H} {n : Nat}, ts[j]? = some t → ds[j]? = some d → n ∈ d.weights P t → n ∈ DataW.weightsEach P ts ds := fun ht hd hn => DataW.weights_mem_each ht hd _ hn
/-- One value, read. -/
theorem vcame_of {r : Reach} {b0 : Nat} {v : Value} {d : DataW H} {p : List MemPlace} {ts : List TypeId} {ds : List (DataW H)} {j : Nat}
    (hv : Value.okWide Tryd.prog W r b0 25 v) (h : DataW.Trod enc Tryd.prog W 0 (fun _ => true) true 25 v d p)
    (hsz : (DataW.weightsEach Tryd.prog ts ds).all (· ≤ reachBytes) = true) (ht : ts[j]? = some 25) (hd : ds[j]? = some d) :
    ∃ (x : Vv) (L : Value), v = vval x L ∧ VIn x ∧ ILies W L x.l := by
  obtain ⟨v0, v1, v2, v3, y0, y1, y2, y3, n, rfl, rfl, rfl, g0, g1, g2, g3⟩ := Joins.open_agg4 Tryd.underlying25 (by kernel_rfl) Tryd.cellsVal hv h
  obtain ⟨n0, e0, r0, k0⟩ := DataW.trod_int Tryd.underlying3 g0
  obtain ⟨n1, e1, r1, k1⟩ := DataW.trod_int Tryd.underlying3 g1
  obtain ⟨s2, e2, r2, k2⟩ := DataW.trod_string Tryd.underlying9 g2
  simp at e0 e1 e2
  subst e0; subst e1; subst e2
  have hr : reachBytes = 140737488351232 := rfl
  have hs : s2.size ≤ 140737488351232 := by
    have hm : s2.data.toList.length ∈ DataW.weights Tryd.prog 25 (.agg [y0.1, y1.1, y2.1, y3.1] : DataW H) := by
      rw [r2]
      simp [DataW.weights, Tryd.underlying25, DataW.weightsEach]
    have := List.all_eq_true.1 hsz _ (DataW.weights_mem_each ht hd _ hm)
    rw [bsize_list'] at this
    simp only [decide_eq_true_eq] at this
    omega
  rcases open_ints Tryd.underlying23 Tryd.underlying3 Tryd.cellsIntV g3 with ⟨hcs, hx⟩ | ⟨a, len, cap, zs, hcs, _, hl, hm, hz, hx, hcell, hwf⟩
  · simp at hcs
    subst hcs
    exact ⟨⟨n0, n1, s2, []⟩, _, rfl, ⟨k0, k1, hs, (fun i hi => by cases hi), by simp⟩, .inl ⟨rfl, rfl⟩⟩
  · simp at hcs
    subst hcs
    simp only [if_true] at hz
    have hlen : (zs.take len).length = len := by simp; omega
    refine ⟨⟨n0, n1, s2, zs.take len⟩, _, rfl, ⟨k0, k1, hs, fun i hi => hwf i (List.mem_of_mem_take hi), ?_⟩, .inr ⟨a, cap, by simp only [hlen], by simp only [hlen]; exact hl, hm, fun hne => ?_, fun k i hk => ?_⟩⟩
    · have hmm : ((lits (H := H) .i64 (zs.take len)).length + (lits (H := H) .i64 (zs.drop len)).length) * 8 ∈ DataW.weights Tryd.prog 25 (.agg [y0.1, y1.1, y2.1, y3.1] : DataW H) := by
        rw [hx]
        simp [DataW.weights, Tryd.underlying25, Tryd.underlying23, Tryd.bytesIntV, DataW.weightsEach]
      have := List.all_eq_true.1 hsz _ (DataW.weights_mem_each ht hd _ hmm)
      simp only [decide_eq_true_eq, lits, List.length_map] at this
      simp only at hlen ⊢
      omega
    · simp only at hne
      have h0 : 0 < len := by
        rcases Nat.eq_zero_or_pos len with h | h
        · exfalso; apply hne; rw [h]; rfl
        · exact h
      have := World.cell?_spot (hcell 0 (by omega))
      simpa [Addr.add] using this
    · simp only at hk
      have hj : k < len := by
        have := (List.getElem?_eq_some_iff.1 hk).1
        omega
      have hX' : zs.getD k 0 = i := by
        rw [List.getElem?_take_of_lt hj] at hk
        simp [List.getD, hk]
      rw [← hX']
      exact hcell k (by omega)
end
end Go.Proofs.YtncjaohiimenaabDoor
