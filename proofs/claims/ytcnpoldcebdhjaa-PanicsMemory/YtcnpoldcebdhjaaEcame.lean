/- Events that came in. -/
import Derived.Test.YtcnpoldcebdhjaaQe1
namespace Go.Proofs.Ytcnpoldcebdhjaa
open Go.ChangeShapes Go.WideShapes Go.ChangeAt Go.RowKit
set_option maxRecDepth 100000
set_option linter.unusedSimpArgs false
set_option linter.unusedVariables false
theorem Try.cellsEv : Try.prog.cellsOf 34 = 6 := by kernel_rfl
theorem Try.bytesEv : Try.prog.bytesOf 34 = 72 := by kernel_rfl
theorem Try.cellsValE : Try.prog.cellsOf 32 = 4 := by kernel_rfl
theorem Try.cellsStrE : Try.prog.cellsOf 9 = 1 := by kernel_rfl
section
variable {H : Type} {enc : TypeId × Value → H} {W : World}
theorem ev_weights (d0 d1 z0 z1 z2 : DataW H) (l sp : List (DataW H)) (R : Nat) (h : ∀ n ∈ (DataW.agg [d0, d1, .agg [z0, z1, z2, .slice l sp]]).weights Try.prog 34, n ≤ R) : (l.length + sp.length) * 8 ≤ R := by
  refine h _ ?_
  simp [DataW.weights, Try.underlying34, Try.underlying32, Try.underlying30, Try.bytesIntP, DataW.weightsEach]
theorem ev_read {fuel : Nat} {cs : List Value} {x : DataW H × List MemPlace} {R : Nat} (h : DataW.trod enc Try.prog W 0 (fun _ => true) true fuel 34 cs = some x) (hR : R ≤ 140737488351232) (hw : ∀ n ∈ x.1.weights Try.prog 34, n ≤ R) :
    ∃ e : Eo, cs = e.cells ∧ ∃ l, l.length = e.ln ∧ ILies W e.L l ∧ l.length * 8 ≤ 140737488351232 := by
  obtain ⟨xs, n, -, hx, hlen, hxl, hf⟩ := DataW.trod_struct Try.underlying34 h
  rw [Try.cellsEv] at hlen
  match xs, hxl, cs, hlen with
  | [y0, y1, y2], _, [v0, v1, v2, v3, v4, v5], _ =>
    have g0 : DataW.trod enc Try.prog W 0 (fun _ => true) true n 3 (List.take (Try.prog.cellsOf 3) [v0, v1, v2, v3, v4, v5]) = some y0 := hf 0 _ rfl
    rw [Try.cellsIntP] at g0
    have g1 : DataW.trod enc Try.prog W 0 (fun _ => true) true n 3 (List.take (Try.prog.cellsOf 3) [v1, v2, v3, v4, v5]) = some y1 := hf 1 _ rfl
    rw [Try.cellsIntP] at g1
    have g2 : DataW.trod enc Try.prog W 0 (fun _ => true) true n 32 (List.take (Try.prog.cellsOf 32) [v2, v3, v4, v5]) = some y2 := hf 2 _ rfl
    rw [Try.cellsValE] at g2
    obtain ⟨zs', n2, -, hz', hlen2, hzl, hf2⟩ := DataW.trod_struct Try.underlying32 g2
    match zs', hzl with
    | [z0, z1, z2, z3], _ =>
      have k0 : DataW.trod enc Try.prog W 0 (fun _ => true) true n2 3 (List.take (Try.prog.cellsOf 3) [v2, v3, v4, v5]) = some z0 := hf2 0 _ rfl
      rw [Try.cellsIntP] at k0
      have k1 : DataW.trod enc Try.prog W 0 (fun _ => true) true n2 3 (List.take (Try.prog.cellsOf 3) [v3, v4, v5]) = some z1 := hf2 1 _ rfl
      rw [Try.cellsIntP] at k1
      have k2 : DataW.trod enc Try.prog W 0 (fun _ => true) true n2 9 (List.take (Try.prog.cellsOf 9) [v4, v5]) = some z2 := hf2 2 _ rfl
      rw [Try.cellsStrE] at k2
      have k3 : DataW.trod enc Try.prog W 0 (fun _ => true) true n2 30 (List.take (Try.prog.cellsOf 30) [v5]) = some z3 := hf2 3 _ rfl
      rw [Try.cellsIntsP] at k3
      obtain ⟨n0, e0, r0, w0⟩ := DataW.trod_int Try.underlying3 g0
      obtain ⟨n1, e1, r1, w1⟩ := DataW.trod_int Try.underlying3 g1
      obtain ⟨n3, e3, r3, w3⟩ := DataW.trod_int Try.underlying3 k0
      obtain ⟨n4, e4, r4, w4⟩ := DataW.trod_int Try.underlying3 k1
      obtain ⟨s5, e5, r5, w5⟩ := DataW.trod_string Try.underlying9 k2
      simp at e0 e1 e3 e4 e5
      subst e0; subst e1; subst e3; subst e4; subst e5
      have k3' : DataW.trod enc Try.prog W 0 (fun _ => true) true n2 30 [v5] = some z3 := k3
      rcases open_ints Try.underlying30 Try.underlying3 Try.cellsIntP k3' with ⟨hcs, hy⟩ | ⟨a, len, cap, zs, hcs, _, hl, hm, hz, hy, hcell, hwf⟩
      · simp at hcs
        subst hcs
        exact ⟨⟨⟨n0, n1, n3, n4, s5⟩, none, 0, 0⟩, rfl, [], rfl, .inl ⟨rfl, rfl⟩, by simp⟩
      · simp at hcs
        subst hcs
        simp only [if_true] at hz
        have hlen : (zs.take len).length = len := by simp; omega
        refine ⟨⟨⟨n0, n1, n3, n4, s5⟩, some a, len, cap⟩, rfl, zs.take len, hlen, .inr ⟨a, cap, by simp only [hlen]; rfl, by simp only [hlen]; exact hl, hm, fun hne => ?_, fun k i hk => ?_⟩, ?_⟩
        · have h0 : 0 < len := by
            rcases Nat.eq_zero_or_pos len with h | h
            · exfalso; apply hne; rw [h]; rfl
            · exact h
          have := World.cell?_spot (hcell 0 (by omega))
          simpa [Addr.add] using this
        · have hj : k < len := by
            have := (List.getElem?_eq_some_iff.1 hk).1
            omega
          have hX' : zs.getD k 0 = i := by
            rw [List.getElem?_take_of_lt hj] at hk
            simp [List.getD, hk]
          rw [← hX']
          exact hcell k (by omega)
        · rw [hx] at hw
          simp only [List.map_cons, List.map_nil] at hw
          rw [hz'] at hw
          simp only [List.map_cons, List.map_nil] at hw
          rw [hy] at hw
          have := ev_weights _ _ _ _ _ _ _ R hw
          simp only [lits, List.length_map] at this
          omega
theorem weightsAll_in {P : Program} {e : TypeId} : ∀ {l : List (DataW H)} {d : DataW H}, d ∈ l → ∀ n ∈ d.weights P e, n ∈ DataW.weightsAll P e l
  | x :: r, d, h, n, hn => by
    simp only [DataW.weightsAll, List.mem_append]
    rcases List.mem_cons.1 h with rfl | h
    · exact .inl hn
    · exact .inr (weightsAll_in h n hn)
theorem evs_came {a0 : Option Addr} {len cap : Nat} {d : DataW H} {p : List MemPlace} {ts : List TypeId} {ds : List (DataW H)} {j : Nat}
    (h : DataW.Trod enc Try.prog W 0 (fun _ => true) true 29 (.slice a0 len cap) d p)
    (hsz : (DataW.weightsEach Try.prog ts ds).all (· ≤ reachBytes) = true) (ht : ts[j]? = some 29) (hd : ds[j]? = some d) :
    ∃ es, EvSrc W (.slice a0 len cap) es ∧ es.length ≤ 140737488351232 := by
  have hw : ∀ n ∈ d.weights Try.prog 29, n ≤ 140737488351232 := fun n hn => by
    have := List.all_eq_true.1 hsz _ (DataW.weights_mem_each ht hd _ hn)
    exact of_decide_eq_true this
  obtain ⟨fuel, hf0⟩ := h
  have hf : DataW.trod enc Try.prog W 0 (fun _ => true) true fuel 29 [.slice a0 len cap] = some (d, p) := hf0
  rcases Deep.open_slice Try.underlying29 hf with ⟨hcs, hx⟩ | ⟨a, len', cap', m, n, D, Pl, hcs, _, hl, hm, hmm, hx, hcell⟩
  · simp at hcs
    obtain ⟨rfl, rfl, rfl⟩ := hcs
    exact ⟨[], ⟨.inl ⟨rfl, rfl⟩, (fun e h => by cases h)⟩, by simp⟩
  · simp at hcs
    obtain ⟨rfl, rfl, rfl⟩ := hcs
    simp only [if_true] at hmm
    subst hmm
    rw [Try.cellsEv] at hcell
    simp only [Prod.mk.injEq] at hx
    obtain ⟨rfl, -⟩ := hx
    simp only [DataW.weights, Try.underlying29, Try.bytesEv, List.length_map, List.length_range, List.mem_cons, List.mem_append] at hw
    have hn := hw _ (.inl rfl)
    have each : ∀ i, i < len → ∃ e : Eo, (∀ j u, e.cells[j]? = some u → W.cell? ((a.add (i * 6)).add j) = some u) ∧ ∃ l, l.length = e.ln ∧ ILies W e.L l ∧ l.length * 8 ≤ 140737488351232 := fun i hi => by
      obtain ⟨cs', h1, h2⟩ := hcell i (by omega)
      obtain ⟨_, hlen, hc⟩ := World.cells?_some h1
      obtain ⟨e, rfl, hD⟩ := ev_read h2 (Nat.le_refl _) (fun q hq => hw q (.inr (.inl (weightsAll_in (show D i ∈ (List.range len).map D from List.mem_map.2 ⟨i, List.mem_range.2 hi, rfl⟩) q hq))))
      refine ⟨e, fun j u hu => ?_, hD⟩
      have hj := (List.getElem?_eq_some_iff.1 hu).1
      rw [hc j (by rw [hlen] at hj; exact hj), hu]
    haveI : Inhabited Eo := ⟨⟨⟨0, 0, 0, 0, ⟨#[]⟩⟩, none, 0, 0⟩⟩
    obtain ⟨f, hfun⟩ := Deep.choose_lt each
    have hL : ((List.range len).map f).length = len := by simp
    refine ⟨(List.range len).map f, ⟨.inr ⟨a, m, by rw [hL], by rw [hL]; exact hl, hm, fun hne => ?_, fun k e hk j u hu => ?_⟩, fun e he => ?_⟩, by rw [hL]; omega⟩
    · have h0 : 0 < len := by
        rcases Nat.eq_zero_or_pos len with h | h
        · exfalso; apply hne; rw [h]; rfl
        · exact h
      have := World.cell?_spot ((hfun 0 h0).1 0 _ rfl)
      simpa [Addr.add] using this
    · have hkl := (List.getElem?_eq_some_iff.1 hk).1
      rw [hL] at hkl
      have hk2 : ((List.range len).map f)[k]? = some (f k) := by
        rw [List.getElem?_map, List.getElem?_range hkl]; rfl
      rw [hk2] at hk
      cases hk
      have := (hfun k hkl).1 j u hu
      rwa [Deep.add_add] at this
    · obtain ⟨i, hi, rfl⟩ := List.mem_map.1 he
      exact (hfun i (List.mem_range.1 hi)).2
end
end Go.Proofs.Ytcnpoldcebdhjaa
