/- A list of panics that came in, where all that comes in is small. -/
import Derived.Test.YtncjaohiimenaabDoorPflight
import Derived.Test.YtncjaohiimenaabDoorVsmall
namespace Go.Proofs.YtncjaohiimenaabDoor
open Go.ChangeShapes Go.WideShapes Go.ChangeAt Go.RowKit
set_option maxRecDepth 100000
set_option linter.unusedSimpArgs false
theorem Tryd.cellsStrR : Tryd.prog.cellsOf 9 = 1 := by kernel_rfl
theorem Tryd.cellsIntsR : Tryd.prog.cellsOf 23 = 1 := by kernel_rfl
theorem Tryd.cellsBoolR : Tryd.prog.cellsOf 4 = 1 := by kernel_rfl
theorem Tryd.cellsPnR : Tryd.prog.cellsOf 27 = 7 := by kernel_rfl
section
variable {H : Type} {enc : TypeId × Value → H} {W : World}
theorem pn_read {fuel : Nat} {cs : List Value} {x : DataW H × List MemPlace} (h : DataW.trod enc Tryd.prog W 0 (fun _ => true) true fuel 27 cs = some x) (hbk : Rows.uptoBulk x.1 ≤ 1048576) :
    ∃ e : Pe, cs = e.cells ∧ VIn e.x ∧ ILies W e.L e.x.l ∧ e.x.s.size ≤ 1048576 ∧ e.x.l.length ≤ 1048576 := by
  obtain ⟨xs, n, -, hx, hlen, hxl, hf⟩ := DataW.trod_struct Tryd.underlying27 h
  rw [Tryd.cellsPnR] at hlen
  match xs, hxl, cs, hlen with
  | [y0, y1, y2, y3], _, [v0, v1, v2, v3, v4, v5, v6], _ =>
    have g0 : DataW.trod enc Tryd.prog W 0 (fun _ => true) true n 3 (List.take (Tryd.prog.cellsOf 3) [v0, v1, v2, v3, v4, v5, v6]) = some y0 := hf 0 _ rfl
    rw [Tryd.cellsIntV] at g0
    have g1 : DataW.trod enc Tryd.prog W 0 (fun _ => true) true n 25 (List.take (Tryd.prog.cellsOf 25) [v1, v2, v3, v4, v5, v6]) = some y1 := hf 1 _ rfl
    rw [Tryd.cellsVal] at g1
    have g2 : DataW.trod enc Tryd.prog W 0 (fun _ => true) true n 4 (List.take (Tryd.prog.cellsOf 4) [v5, v6]) = some y2 := hf 2 _ rfl
    rw [Tryd.cellsBoolR] at g2
    have g3 : DataW.trod enc Tryd.prog W 0 (fun _ => true) true n 4 (List.take (Tryd.prog.cellsOf 4) [v6]) = some y3 := hf 3 _ rfl
    rw [Tryd.cellsBoolR] at g3
    obtain ⟨n0, e0, r0, k0⟩ := DataW.trod_int Tryd.underlying3 g0
    obtain ⟨b2, e2, r2⟩ := DataW.trod_bool Tryd.underlying4 g2
    obtain ⟨b3, e3, r3⟩ := DataW.trod_bool Tryd.underlying4 g3
    simp at e0 e2 e3
    subst e0; subst e2; subst e3
    rw [hx] at hbk
    simp only [List.map_cons, List.map_nil] at hbk
    simp only [Rows.uptoBulk, Rows.uptoBulkAll] at hbk
    obtain ⟨xs', n', -, hx', hlen', hxl', hf'⟩ := DataW.trod_struct Tryd.underlying25 g1
    match xs', hxl' with
    | [z0, z1, z2, z3], _ =>
      have k1 : DataW.trod enc Tryd.prog W 0 (fun _ => true) true n' 3 (List.take (Tryd.prog.cellsOf 3) [v1, v2, v3, v4]) = some z0 := hf' 0 _ rfl
      rw [Tryd.cellsIntV] at k1
      have k2 : DataW.trod enc Tryd.prog W 0 (fun _ => true) true n' 3 (List.take (Tryd.prog.cellsOf 3) [v2, v3, v4]) = some z1 := hf' 1 _ rfl
      rw [Tryd.cellsIntV] at k2
      have k3 : DataW.trod enc Tryd.prog W 0 (fun _ => true) true n' 9 (List.take (Tryd.prog.cellsOf 9) [v3, v4]) = some z2 := hf' 2 _ rfl
      rw [Tryd.cellsStrR] at k3
      have k4 : DataW.trod enc Tryd.prog W 0 (fun _ => true) true n' 23 (List.take (Tryd.prog.cellsOf 23) [v4]) = some z3 := hf' 3 _ rfl
      rw [Tryd.cellsIntsR] at k4
      obtain ⟨n1, e1, r1, w1⟩ := DataW.trod_int Tryd.underlying3 k1
      obtain ⟨n2, e4, r4, w2⟩ := DataW.trod_int Tryd.underlying3 k2
      obtain ⟨s2, e5, r5, w3⟩ := DataW.trod_string Tryd.underlying9 k3
      simp at e1 e4 e5
      subst e1; subst e4; subst e5
      rw [hx'] at hbk
      simp only [List.map_cons, List.map_nil] at hbk
      rw [r5] at hbk
      simp only [Rows.uptoBulk, Rows.uptoBulkAll] at hbk
      have hss : s2.data.toList.length = s2.size := bsize_list' s2
      have k4' : DataW.trod enc Tryd.prog W 0 (fun _ => true) true n' 23 [v4] = some z3 := k4
      rcases open_ints Tryd.underlying23 Tryd.underlying3 Tryd.cellsIntV k4' with ⟨hcs, hy⟩ | ⟨a, len, cap, zs, hcs, _, hl, hm, hz, hy, hcell, hwf⟩
      · simp at hcs
        subst hcs
        exact ⟨⟨n0, ⟨n1, n2, s2, []⟩, _, b2, b3⟩, rfl, ⟨w1, w2, by simp only; omega, (fun i hi => by cases hi), by simp⟩, .inl ⟨rfl, rfl⟩, by simp only; omega, by simp⟩
      · simp at hcs
        subst hcs
        simp only [if_true] at hz
        have hlen : (zs.take len).length = len := by simp; omega
        rw [hy] at hbk
        simp only [Rows.uptoBulk] at hbk
        have hb1 := bulk_len (lits (H := H) .i64 (zs.take len))
        simp only [lits, List.length_map] at hb1
        simp only [lits] at hbk
        refine ⟨⟨n0, ⟨n1, n2, s2, zs.take len⟩, _, b2, b3⟩, rfl, ⟨w1, w2, by simp only; omega, fun i hi => hwf i (List.mem_of_mem_take hi), by simp only; omega⟩, .inr ⟨a, cap, by simp only [hlen], by simp only [hlen]; exact hl, hm, fun hne => ?_, fun k i hk => ?_⟩, by simp only; omega, by simp only; omega⟩
        · simp only at hne
          have h0 : 0 < len := by
            rcases Nat.eq_zero_or_pos len with h | h
            · exfalso; apply hne; rw [h]; rfl
            · exact h
          have := World.cell?_spot (hcell 0 (by omega))
          simpa [Addr.add] using this
        · simp only at hk
          have hj : k < len := by
            have := (List.getElem?_eq_some_iff.1 hk).1
            omega
          have hX' : zs.getD k 0 = i := by
            rw [List.getElem?_take_of_lt hj] at hk
            simp [List.getD, hk]
          rw [← hX']
          exact hcell k (by omega)
theorem ps_came {a0 : Option Addr} {len cap fuel : Nat} {x : DataW H × List MemPlace}
    (hf : DataW.trod enc Tryd.prog W 0 (fun _ => true) true fuel 22 [.slice a0 len cap] = some x) (hbk : Rows.uptoBulk x.1 ≤ 1048576) :
    ∃ es : List Pe, PsLies W (.slice a0 len cap) es ∧ PsIn es := by
  rcases Deep.open_slice Tryd.underlying22 hf with ⟨hcs, hx⟩ | ⟨a, len', cap', m, n, D, Pl, hcs, _, hl, hm, hmm, hx, hcell⟩
  · simp at hcs
    obtain ⟨rfl, rfl, rfl⟩ := hcs
    exact ⟨[], ⟨.inl ⟨rfl, rfl⟩, (fun e h => by cases h)⟩, ⟨(fun e h => by cases h), by simp⟩⟩
  · simp at hcs
    obtain ⟨rfl, rfl, rfl⟩ := hcs
    simp only [if_true] at hmm
    subst hmm
    rw [Tryd.cellsPnR] at hcell
    rw [hx] at hbk
    simp only [Rows.uptoBulk] at hbk
    have hlb := bulk_len ((List.range len).map D)
    simp only [List.length_map, List.length_range] at hlb
    have each : ∀ i, i < len → ∃ e : Pe, (∀ j u, e.cells[j]? = some u → W.cell? ((a.add (i * 7)).add j) = some u) ∧ VIn e.x ∧ ILies W e.L e.x.l ∧ e.x.s.size ≤ 1048576 ∧ e.x.l.length ≤ 1048576 := fun i hi => by
      obtain ⟨cs', h1, h2⟩ := hcell i (by omega)
      obtain ⟨_, hlen, hc⟩ := World.cells?_some h1
      have hd : Rows.uptoBulk (D i) ≤ 1048576 := by
        have := bulk_mem (show D i ∈ (List.range len).map D from List.mem_map.2 ⟨i, List.mem_range.2 hi, rfl⟩)
        omega
      obtain ⟨e, rfl, hD⟩ := pn_read h2 hd
      refine ⟨e, fun j u hu => ?_, hD⟩
      have hj := (List.getElem?_eq_some_iff.1 hu).1
      rw [hc j (by rw [hlen] at hj; exact hj), hu]
    haveI : Inhabited Pe := ⟨⟨0, ⟨0, 0, ⟨#[]⟩, []⟩, .slice none 0 0, false, false⟩⟩
    obtain ⟨f, hfun⟩ := Deep.choose_lt each
    have hL : ((List.range len).map f).length = len := by simp
    refine ⟨(List.range len).map f, ⟨.inr ⟨a, m, by rw [hL], by rw [hL]; exact hl, hm, fun hne => ?_, fun k e hk j u hu => ?_⟩, fun e he => ?_⟩, ⟨fun e he => ?_, by rw [hL]; omega⟩⟩
    · have h0 : 0 < len := by
        rcases Nat.eq_zero_or_pos len with h | h
        · exfalso; apply hne; rw [h]; rfl
        · exact h
      have := World.cell?_spot ((hfun 0 h0).1 0 _ rfl)
      simpa [Addr.add] using this
    · have hkl := (List.getElem?_eq_some_iff.1 hk).1
      rw [hL] at hkl
      have hk2 : ((List.range len).map f)[k]? = some (f k) := by
        rw [List.getElem?_map, List.getElem?_range hkl]; rfl
      rw [hk2] at hk
      cases hk
      have := (hfun k hkl).1 j u hu
      rwa [Deep.add_add] at this
    · obtain ⟨i, hi, rfl⟩ := List.mem_map.1 he
      exact (hfun i (List.mem_range.1 hi)).2.2.1
    · obtain ⟨i, hi, rfl⟩ := List.mem_map.1 he
      obtain ⟨-, h1, h2, h3, h4⟩ := hfun i (List.mem_range.1 hi)
      exact ⟨h1, h3, h4⟩
end
end Go.Proofs.YtncjaohiimenaabDoor
