/- A copy of tokens, one more behind them, and what Show is handed. -/
import Derived.Test.YtljdfaoplenloaaDoorSmem
import Derived.OwnWalk
namespace Go.Proofs.YtljdfaoplenloaaDoor
open Go.ChangeShapes Go.WideShapes Go.ChangeAt Go.RowKit
set_option maxRecDepth 100000
set_option linter.unusedSimpArgs false
set_option linter.unusedVariables false

theorem wpList_copy_toks {P : Program} {w : World} {ops : Array Oper} {rest : List Oper} {o : Oper} {a : Act} {Q : Exit → Act → World → Prop} (hgd : o.guard = none) (d s : Operand) (dT sT : TypeId)
    (ho : o.op = .call { callee := .builtin .copy, args := #[d, s], argTypes := #[dT, sT] }) (elem : TypeId) (hu : P.underlying dT = some (.slice elem)) (hsz : (P.info? elem).map (·.size) = some 4)
    (g dLen dCap : Nat) (so : Option Addr) (sLen sCap : Nat) (hd : a.eval d = .slice (some ⟨g, 0, none⟩) dLen dCap) (hs : a.eval s = .slice so sLen sCap) (hle : sLen ≤ dLen)
    (cur : Array Value) (t : TypeId) (hg : w.heap[g]? = some (.cells cur t (0, 0))) (cs : List Value) (hn : cs.length = sLen * 4)
    (hsrc : (so = none ∧ sLen = 0 ∧ sCap = 0) ∨ ∃ ad, so = some ad ∧ ∀ j v, cs[j]? = some v → w.cell? (ad.add j) = some v) (hfit : cs.length ≤ cur.size) (h1 : ∀ v ∈ cs, v.oneCell' = true)
    (h : ∀ w', Hid (w'.heap[g]? = some (.cells (cs ++ cur.toList.drop cs.length).toArray t (0, 0)) ∧ w.grownBy w' (some g)) → wpList P ops Q rest (a.put o.dst (goInt sLen)) w') : wpList P ops Q (o :: rest) a w := by
  refine wpList_plain hgd fun K hK => ?_
  rcases hsrc with ⟨rfl, rfl, rfl⟩ | ⟨ad, rfl, hsrc⟩
  · have hrun := run_copy_nil (P := P) w dT sT o.type elem ⟨g, 0, none⟩ dLen dCap hu (by rw [hsz]; rfl)
    have hc : cs = [] := List.length_eq_zero_iff.1 (by omega)
    subst hc
    unfold Oper.wp
    simp [execOp, ho, resolve, invoke, builtin, hd, hs, hrun, Result.andThen]
    exact hK _ _ (h w ⟨by simpa using hg, World.grownBy.refl _ _⟩)
  · have hmin : Nat.min sLen dLen = sLen := Nat.min_eq_left hle
    have hrun := run_copy_toks (P := P) w dT sT o.type elem g dLen dCap ad sLen sCap cur t cs hu hsz hg (by rw [hmin]; exact hn) hsrc hfit h1
    rw [hmin] at hrun
    unfold Oper.wp
    simp only [execOp, ho, resolve, invoke, builtin]
    simp [hd, hs, hrun, Result.andThen]
    exact hK _ _ (h _ ⟨setRow_heap w g _ _ t _ hg, rfl, rfl, rfl, by simp [World.setRow], fun k _ hk => setRow_other w g k _ (fun e => hk (by rw [e]))⟩)
def Tk.j (t : Tk) : Tj := ⟨t.kind, t.text, t.line, t.col⟩
theorem chain_short {src : ByteArray} {hi : Nat} : ∀ {lo : Nat} {ts : List Tk}, Chain src hi lo ts → ∀ t ∈ ts, t.text.size ≤ src.size + 1
  | _, [], _ => fun t ht => by cases ht
  | _, u :: us, ⟨p, _, _, h, hc⟩ => fun t ht => by
    rcases List.mem_cons.1 ht with rfl | ht
    · rcases h.2 with h | ⟨_, h, _⟩
      · omega
      · rw [h]; show 1 ≤ _; omega
    · exact chain_short hc t ht
theorem rts_short (src : ByteArray) (hs : src.size ≤ maxLen) : ∀ t ∈ rts (tokR src), t.text.size ≤ 281474976710656 := by
  cases h : tokR src with
  | bad c ln cl => intro t ht; cases ht
  | ok s =>
    intro t ht
    have := chain_short (tok_places h) t ht
    unfold tokR at h
    split at h
    · cases h
    · omega
theorem tlies_of {w : World} {g cap : Nat} {ts : List Tk} (hc : ts.length ≤ cap) (h : ∀ k t, ts[k]? = some t → TokAt w g k t) : TLies w (.slice (some ⟨g, 0, none⟩) ts.length cap) (ts.map Tk.j) := by
  refine ⟨some ⟨g, 0, none⟩, cap, by rw [List.length_map], fun _ => ⟨by rw [List.length_map]; exact hc, g, rfl, fun k t hk => ?_⟩⟩
  rw [List.getElem?_map] at hk
  obtain ⟨u, hu, rfl⟩ := Option.map_eq_some_iff.1 hk
  exact h k u hu
theorem tcells_one (ts : List Tk) : ∀ v ∈ tcells ts, v.oneCell' = true := by
  intro v hv
  simp only [tcells, List.mem_flatMap] at hv
  obtain ⟨t, _, h⟩ := hv
  simp only [Tk.cells, List.mem_cons, List.not_mem_nil, or_false] at h
  rcases h with rfl | rfl | rfl | rfl <;> rfl
/-- The copy, and one token more behind it. -/
theorem spare_fin {w : World} {gm : Nat} {ts : List Tk} {C : Array Value} (hh : w.heap[gm]? = some (.cells C 33 (0, 0))) (hz : C.size = (ts.length + 1) * 4) (ht : C.toList.take (ts.length * 4) = tcells ts) (a b c d : Value) :
    (∀ k t, ts[k]? = some t → TokAt ((((w.setCell ⟨gm, ts.length * 4, none⟩ a).setCell ⟨gm, ts.length * 4 + 1, none⟩ b).setCell ⟨gm, ts.length * 4 + 2, none⟩ c).setCell ⟨gm, ts.length * 4 + 3, none⟩ d) gm k t) ∧
    ((((w.setCell ⟨gm, ts.length * 4, none⟩ a).setCell ⟨gm, ts.length * 4 + 1, none⟩ b).setCell ⟨gm, ts.length * 4 + 2, none⟩ c).setCell ⟨gm, ts.length * 4 + 3, none⟩ d).cell? ⟨gm, ts.length * 4 + 1, none⟩ = some b ∧
    w.grownBy ((((w.setCell ⟨gm, ts.length * 4, none⟩ a).setCell ⟨gm, ts.length * 4 + 1, none⟩ b).setCell ⟨gm, ts.length * 4 + 2, none⟩ c).setCell ⟨gm, ts.length * 4 + 3, none⟩ d) (some gm) := by
  have h1 := Go.heap_setCell_same w gm (ts.length * 4) C 33 a hh
  have h2 := Go.heap_setCell_same _ gm (ts.length * 4 + 1) _ 33 b h1
  have h3 := Go.heap_setCell_same _ gm (ts.length * 4 + 2) _ 33 c h2
  have h4 := Go.heap_setCell_same _ gm (ts.length * 4 + 3) _ 33 d h3
  have hlow : ∀ m, m < ts.length * 4 → ((((w.setCell ⟨gm, ts.length * 4, none⟩ a).setCell ⟨gm, ts.length * 4 + 1, none⟩ b).setCell ⟨gm, ts.length * 4 + 2, none⟩ c).setCell ⟨gm, ts.length * 4 + 3, none⟩ d).cell? ⟨gm, m, none⟩ = (tcells ts)[m]? := fun m hm => by
    rw [Lib.cell_of_heap h4 m, Array.getElem?_setIfInBounds_ne (by omega), Array.getElem?_setIfInBounds_ne (by omega), Array.getElem?_setIfInBounds_ne (by omega), Array.getElem?_setIfInBounds_ne (by omega), ← ht, List.getElem?_take_of_lt hm, Array.getElem?_toList]
  refine ⟨fun k t hk => ?_, ?_, ?_⟩
  · have hlt : k < ts.length := (List.getElem?_eq_some_iff.1 hk).1
    refine ⟨?_, ?_, ?_, ?_⟩
    · rw [hlow _ (by omega)]; exact tcells_get hk 0 (by decide)
    · rw [hlow _ (by omega)]; exact tcells_get hk 1 (by decide)
    · rw [hlow _ (by omega)]; exact tcells_get hk 2 (by decide)
    · rw [hlow _ (by omega)]; exact tcells_get hk 3 (by decide)
  · rw [Lib.cell_of_heap h4, Array.getElem?_setIfInBounds_ne (by omega), Array.getElem?_setIfInBounds_ne (by omega), Array.getElem?_setIfInBounds_self_of_lt (by simp; omega)]
  · have key : ∀ (W : World) (j : Nat) (u : Value), W.grownBy (W.setCell ⟨gm, j, none⟩ u) (some gm) := fun W j u => ⟨rfl, rfl, rfl, by simp [World.setCell], fun k _ hk => Below.heap_setCell _ _ _ _ (fun e => hk (by rw [e]))⟩
    exact (((key _ _ _).trans (key _ _ _)).trans (key _ _ _)).trans (key _ _ _)
theorem made_row {w : World} {B g n : Nat} {xs : List Value} (h : w.ownsRow B 33 4 (.slice (some ⟨g, 0, none⟩) n n) n xs) : ∃ cur : Array Value, w.heap[g]? = some (.cells cur 33 (0, 0)) ∧ cur.size = n * 4 := by
  rcases h.2 with ⟨h0, _⟩ | ⟨g', cap, cur, h1, _, hh, _, _, hz, _⟩
  · cases h0
  · cases h1; exact ⟨cur, hh, hz⟩
theorem copied {w : World} {g : Nat} {cur : Array Value} {ts : List Tk} (h : w.heap[g]? = some (.cells (tcells ts ++ cur.toList.drop (tcells ts).length).toArray 33 (0, 0))) (hz : cur.size = (ts.length + 1) * 4) :
    ∃ C : Array Value, w.heap[g]? = some (.cells C 33 (0, 0)) ∧ C.size = (ts.length + 1) * 4 ∧ C.toList.take (ts.length * 4) = tcells ts ∧
      (∃ u0 u1 u2 u3, w.cell? ⟨g, ts.length * 4, none⟩ = some u0 ∧ w.cell? ⟨g, ts.length * 4 + 1, none⟩ = some u1 ∧ w.cell? ⟨g, ts.length * 4 + 2, none⟩ = some u2 ∧ w.cell? ⟨g, ts.length * 4 + 3, none⟩ = some u3) ∧ ∀ j, w.frozen? ⟨g, j, none⟩ = false := by
  have hl := tcells_len ts
  have hs : (tcells ts ++ cur.toList.drop (tcells ts).length).toArray.size = (ts.length + 1) * 4 := by simp [hl]; omega
  refine ⟨_, h, hs, ?_, ?_, fun j => Lib.frozen_of_heap h j⟩
  · simp only [List.toList_toArray]
    rw [← hl, List.take_left']
    rfl
  · have key : ∀ m, m < (ts.length + 1) * 4 → ∃ u, w.cell? ⟨g, m, none⟩ = some u := fun m hm => by
      rw [Lib.cell_of_heap h m]
      exact ⟨_, Array.getElem?_eq_getElem (by rw [hs]; exact hm)⟩
    obtain ⟨u0, h0⟩ := key (ts.length * 4) (by omega)
    obtain ⟨u1, h1⟩ := key (ts.length * 4 + 1) (by omega)
    obtain ⟨u2, h2⟩ := key (ts.length * 4 + 2) (by omega)
    obtain ⟨u3, h3⟩ := key (ts.length * 4 + 3) (by omega)
    exact ⟨u0, u1, u2, u3, h0, h1, h2, h3⟩
/-- What was there stays behind the making, the copy and the token more. -/
theorem spare_keep {W5 w6 w7 W8 : World} {m : Nat} (h6 : (W5.drewN m).grownBy w6 none) (h7 : w6.grownBy w7 (some W5.heap.size)) (h8 : w7.grownBy W8 (some W5.heap.size)) : (∀ k, k < W5.heap.size → W8.heap[k]? = W5.heap[k]?) ∧ ∀ {B : Nat} {w : World}, Below B w W5 → B ≤ W5.heap.size → Below B w W8 := by
  have hs : W5.heap.size ≤ w6.heap.size := h6.size
  have hs7 : w6.heap.size ≤ w7.heap.size := h7.size
  have key : ∀ k, k < W5.heap.size → W8.heap[k]? = W5.heap[k]? := fun k hk => by
    have hne : some k ≠ some W5.heap.size := by simp; omega
    rw [h8.block k (by omega) hne, h7.block k (by omega) hne, h6.block k hk (by simp)]
    rfl
  refine ⟨key, fun {B w} hb hB => ⟨?_, ?_, ?_, ?_, fun k hk => (key k (by omega)).trans (hb.block k hk)⟩⟩
  · rw [h8.os, h7.os, h6.os]; exact hb.os
  · rw [h8.tape, h7.tape, h6.tape]; exact hb.tape
  · rw [h8.output, h7.output, h6.output]; exact hb.output
  · exact Nat.le_trans hb.size (Nat.le_trans hs (Nat.le_trans hs7 h8.size))
end Go.Proofs.YtljdfaoplenloaaDoor
