/- A value that came in, where all that comes in is small. -/
import Derived.Test.YtncjaohiimenaabDoorVcame
namespace Go.Proofs.YtncjaohiimenaabDoor
open Go.ChangeShapes Go.WideShapes Go.ChangeAt Go.RowKit
set_option maxRecDepth 100000
set_option linter.unusedSimpArgs false

section
variable {H : Type} {enc : TypeId × Value → H} {W : World}
theorem bulk_pos (d : DataW H) : 1 ≤ Rows.uptoBulk d := by
  cases d with
  | lit l => cases l <;> (simp only [Rows.uptoBulk]; omega)
  | nil => simp only [Rows.uptoBulk]; omega
  | ptr d => simp only [Rows.uptoBulk]; omega
  | slice a b => simp only [Rows.uptoBulk]; omega
  | agg a => simp only [Rows.uptoBulk]; omega
  | iface t d => simp only [Rows.uptoBulk]; omega
  | map a => simp only [Rows.uptoBulk]; omega
  | held a => simp only [Rows.uptoBulk]; omega
theorem bulk_len : ∀ l : List (DataW H), l.length ≤ Rows.uptoBulkAll l
  | [] => by simp
  | d :: r => by
    have h1 := bulk_pos d
    have h2 := bulk_len r
    simp only [Rows.uptoBulkAll, List.length_cons]
    omega
theorem bulk_mem : ∀ {l : List (DataW H)} {d : DataW H}, d ∈ l → Rows.uptoBulk d ≤ Rows.uptoBulkAll l
  | x :: r, d, h => by
    simp only [Rows.uptoBulkAll]
    rcases List.mem_cons.1 h with rfl | h
    · omega
    · have := bulk_mem h; omega
theorem small_part {l : List (DataW H)} {d : DataW H} (hk : Rows.uptoSmall H l = true) (h : d ∈ l) : Rows.uptoBulk d ≤ 1048576 := by
  have h1 : Rows.uptoBulkAll l ≤ 1048576 := of_decide_eq_true hk
  have h2 := bulk_mem h
  omega
/-- One value, read, where all that comes in is small. -/
theorem vcame_of_small {r : Reach} {b0 : Nat} {v : Value} {d : DataW H} {p : List MemPlace} {ts : List TypeId} {ds : List (DataW H)} {j : Nat}
    (hv : Value.okWide Tryd.prog W r b0 25 v) (h : DataW.Trod enc Tryd.prog W 0 (fun _ => true) true 25 v d p)
    (hsz : (DataW.weightsEach Tryd.prog ts ds).all (· ≤ reachBytes) = true) (ht : ts[j]? = some 25) (hd : ds[j]? = some d) (hk : Rows.uptoSmall H ds = true) :
    ∃ (x : Vv) (L : Value), v = vval x L ∧ VIn x ∧ ILies W L x.l ∧ (x.s.size ≤ 1048576 ∧ x.l.length ≤ 1048576) := by
  have hbk := small_part hk (List.mem_of_getElem? hd)
  obtain ⟨v0, v1, v2, v3, y0, y1, y2, y3, n, rfl, rfl, rfl, g0, g1, g2, g3⟩ := Joins.open_agg4 Tryd.underlying25 (by kernel_rfl) Tryd.cellsVal hv h
  obtain ⟨n0, e0, r0, k0⟩ := DataW.trod_int Tryd.underlying3 g0
  obtain ⟨n1, e1, r1, k1⟩ := DataW.trod_int Tryd.underlying3 g1
  obtain ⟨s2, e2, r2, k2⟩ := DataW.trod_string Tryd.underlying9 g2
  simp at e0 e1 e2
  subst e0; subst e1; subst e2
  have hr : reachBytes = 140737488351232 := rfl
  rw [r2] at hbk
  simp only [Rows.uptoBulk, Rows.uptoBulkAll] at hbk
  have hss : s2.data.toList.length = s2.size := bsize_list' s2
  have hs : s2.size ≤ 140737488351232 := by
    have hm : s2.data.toList.length ∈ DataW.weights Tryd.prog 25 (.agg [y0.1, y1.1, y2.1, y3.1] : DataW H) := by
      rw [r2]
      simp [DataW.weights, Tryd.underlying25, DataW.weightsEach]
    have := List.all_eq_true.1 hsz _ (DataW.weights_mem_each ht hd _ hm)
    rw [bsize_list'] at this
    simp only [decide_eq_true_eq] at this
    omega
  rcases open_ints Tryd.underlying23 Tryd.underlying3 Tryd.cellsIntV g3 with ⟨hcs, hx⟩ | ⟨a, len, cap, zs, hcs, _, hl, hm, hz, hx, hcell, hwf⟩
  · simp at hcs
    subst hcs
    exact ⟨⟨n0, n1, s2, []⟩, _, rfl, ⟨k0, k1, hs, (fun i hi => by cases hi), by simp⟩, .inl ⟨rfl, rfl⟩, by simp only; omega, by simp⟩
  · simp at hcs
    subst hcs
    simp only [if_true] at hz
    have hlen : (zs.take len).length = len := by simp; omega
    rw [hx] at hbk
    simp only [Rows.uptoBulk] at hbk
    have hb1 := bulk_len (lits (H := H) .i64 (zs.take len))
    simp only [lits, List.length_map] at hb1
    simp only [lits] at hbk
    refine ⟨⟨n0, n1, s2, zs.take len⟩, _, rfl, ⟨k0, k1, hs, fun i hi => hwf i (List.mem_of_mem_take hi), ?_⟩, .inr ⟨a, cap, by simp only [hlen], by simp only [hlen]; exact hl, hm, fun hne => ?_, fun k i hk => ?_⟩, by simp only; omega, by simp only; omega⟩
    · have hmm : ((lits (H := H) .i64 (zs.take len)).length + (lits (H := H) .i64 (zs.drop len)).length) * 8 ∈ DataW.weights Tryd.prog 25 (.agg [y0.1, y1.1, y2.1, y3.1] : DataW H) := by
        rw [hx]
        simp [DataW.weights, Tryd.underlying25, Tryd.underlying23, Tryd.bytesIntV, DataW.weightsEach]
      have := List.all_eq_true.1 hsz _ (DataW.weights_mem_each ht hd _ hmm)
      simp only [decide_eq_true_eq, lits, List.length_map] at this
      simp only at hlen ⊢
      omega
    · simp only at hne
      have h0 : 0 < len := by
        rcases Nat.eq_zero_or_pos len with h | h
        · exfalso; apply hne; rw [h]; rfl
        · exact h
      have := World.cell?_spot (hcell 0 (by omega))
      simpa [Addr.add] using this
    · simp only at hk
      have hj : k < len := by
        have := (List.getElem?_eq_some_iff.1 hk).1
        omega
      have hX' : zs.getD k 0 = i := by
        rw [List.getElem?_take_of_lt hj] at hk
        simp [List.getD, hk]
      rw [← hX']
      exact hcell k (by omega)
end
end Go.Proofs.YtncjaohiimenaabDoor
