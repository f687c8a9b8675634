/- Rows of one's own, kept apart: small laws for lists that are written. -/
import Derived.Test.YtmcechcigehjbabOwnparts2
import Derived.Maps.AppendAt
namespace Go.Proofs.Ytmcechcigehjbab
open Go.ChangeShapes Go.WideShapes Go.ChangeAt Go.RowKit
set_option maxRecDepth 100000

theorem owns_below' {w w' : World} {B e s n : Nat} {v : Value} {xs : List Value} (h : w.ownsRow B e s v n xs) (hb : Below w.heap.size w w') : w'.ownsRow B e s v n xs := by
  refine ⟨h.1, ?_⟩
  rcases h.2 with h | ⟨g, cap, cur, e, hg, hh, r1, r2, r3, r4⟩
  · exact .inl h
  · exact .inr ⟨g, cap, cur, e, hg, (hb.block g (Array.getElem?_eq_some_iff.1 hh).1).trans hh, r1, r2, r3, r4⟩
/-- A row that lies apart from what is written. -/
theorem owns_apart {w w' : World} {B e s n : Nat} {v : Value} {xs : List Value} {row : Option Nat} (h : w.ownsRow B e s v n xs) (hg : w.grownBy w' row) (hr : ∀ q, row = some q → q < B) : w'.ownsRow B e s v n xs := by
  refine h.kept hg ?_
  cases hq : v.ownBlock with
  | none => exact .inl rfl
  | some q =>
    right
    intro e
    have h1 := (h.lt q hq).1
    have h2 := hr q e.symm
    omega
/-- Of what form a row's slice is. -/
theorem owns_form {w : World} {B e n : Nat} {v : Value} {xs : List Value} (h : w.ownsRow B e 1 v n xs) (hn : 0 < n) : ∃ g cap, v = .slice (some ⟨g, 0, none⟩) n cap ∧ B ≤ g ∧ g < w.heap.size := by
  rcases h.2 with ⟨_, h0⟩ | ⟨g, cap, cur, h1, hb, hh, _⟩
  · omega
  · exact ⟨g, cap, h1, hb, (Array.getElem?_eq_some_iff.1 hh).1⟩
theorem row_two (w : World) (x y : Value) (t : TypeId) : ∀ j u, [x, y][j]? = some u → (w.alloc (.cells #[x, y] t)).cell? ((⟨w.heap.size, 0, none⟩ : Addr).add j) = some u := by
  intro j u hj
  match j, hj with
  | 0, hj => simp at hj; subst hj; simp [Addr.add]
  | 1, hj => simp at hj; subst hj; simp [Addr.add]
theorem grown_at {w w' : World} {row : Option Nat} {q : Nat} (h : w.grownBy w' row) (e : row = some q) : w.grownBy w' (some q) := by rw [← e]; exact h
theorem own_slice0 {w : World} {B e n : Nat} {v : Value} {xs : List Value} (h : w.ownsRow B e 1 v (0 + n) ([] ++ xs)) : ∃ (ao : Option Addr) (cv : Nat), v = .slice ao n cv ∧ w.ownsRow B e 1 (.slice ao n cv) n xs := by
  rw [Nat.zero_add, List.nil_append] at h
  rcases h.2 with ⟨h1, h0⟩ | ⟨g, cap, cur, h1, _⟩
  · subst h1 h0; exact ⟨none, 0, rfl, h⟩
  · subst h1; exact ⟨_, _, rfl, h⟩
theorem own_slice2 {w : World} {B e n : Nat} {v : Value} {xs : List Value} (h : w.ownsRow B e 1 v (n + 2) xs) : ∃ g cap, v = .slice (some ⟨g, 0, none⟩) (n + 2) cap := by
  rcases h.2 with ⟨_, h⟩ | ⟨g3, cap3, _, h, _⟩
  · omega
  · exact ⟨g3, cap3, h⟩
/-- Two lists that lie apart read as they did behind all that is written into a third. -/
theorem mem_fin {w w1 w3 w4 wr w5 : World} {n g5 cap5 : Nat} {va : Value} {bo wo : Option Addr} {cb cw : Nat} {o : Obj} {xs ys : List Value} {e : TypeId}
    (hx : ∀ k : Nat, k < n → ∃ x, xs[k]? = some (.string x)) (hs1 : w.heap.size ≤ w1.heap.size) (hs3 : w1.heap.size ≤ w3.heap.size) (hAL : ∀ q, va.ownBlock = some q → w.heap.size ≤ q ∧ q < w1.heap.size)
    (hW3 : Below w.heap.size w w3) (hB3 : w3.ownsRow w1.heap.size e 1 (.slice bo n cb) n xs) (hg4 : w3.grownBy w4 none) (hW4 : w4.ownsRow w3.heap.size e 1 (.slice wo n cw) n xs)
    (hgr : w4.grownBy wr va.ownBlock) (hown : w5.ownsRow w.heap.size e 1 (.slice (some ⟨g5, 0, none⟩) (n + 2) cap5) (n + 2) (ys ++ [.string ⟨#[63]⟩, .string ⟨#[63]⟩])) (hyl : ys.length = n) (hg5 : (wr.alloc o).grownBy w5 va.ownBlock)
    (hat : (Value.slice (some ⟨g5, 0, none⟩) (n + 2) cap5).ownBlock = va.ownBlock ∨ (Value.slice (some ⟨g5, 0, none⟩) (n + 2) cap5).ownBlock = some (wr.alloc o).heap.size) :
    (∃ u, w5.cell? ⟨g5, 0, none⟩ = some u) ∧ w5.frozen? ⟨g5, 0, none⟩ = false ∧ Below w.heap.size w (w5.setCell ⟨g5, 0, none⟩ (.string ⟨#[33]⟩)) ∧
      ∀ j, j < n → ∃ x gb gw, bo = some ⟨gb, 0, none⟩ ∧ wo = some ⟨gw, 0, none⟩ ∧ (w5.setCell ⟨g5, 0, none⟩ (.string ⟨#[33]⟩)).cell? ⟨gb, j, none⟩ = some (.string x) ∧ (w5.setCell ⟨g5, 0, none⟩ (.string ⟨#[33]⟩)).cell? ⟨gw, j, none⟩ = some (.string x) := by
  have h4 : w3.heap.size ≤ w4.heap.size := hg4.size
  have h5 : w4.heap.size ≤ wr.heap.size := hgr.size
  have hz : (wr.alloc o).heap.size = wr.heap.size + 1 := by simp
  have hwa : w4.grownBy (wr.alloc o) va.ownBlock := hgr.trans (World.grownBy_alloc _ _ _)
  have hw45 := hwa.trans hg5
  refine ⟨?_, hown.frozenAt 0, ?_, fun j hj => ?_⟩
  · rw [hown.cellAt 0 (by omega)]
    exact ⟨_, List.getElem?_eq_getElem (by simp)⟩
  · have b4 : Below w.heap.size w w4 := hW3.trans ⟨hg4.os, hg4.tape, hg4.output, hg4.size, fun k hk => hg4.block k (by omega) (by simp)⟩
    exact (b4.grown hw45 (by omega) (fun q hq => (hAL q hq).1)).setCell (hown.lt g5 rfl).1 _
  · obtain ⟨x, hxj⟩ := hx j hj
    obtain ⟨gb, capb, e1, hb1, hb2⟩ := owns_form hB3 (by omega)
    obtain ⟨gw, capw, e2, hw1, hw2⟩ := owns_form hW4 (by omega)
    cases e1
    cases e2
    have hne : g5 ≠ gb ∧ g5 ≠ gw := by
      rcases hat with h | h
      · have := (hAL g5 h.symm).2; omega
      · simp only [Value.ownBlock, Option.some.injEq] at h; omega
    have hB4 := hB3.kept hg4 (.inr (by simp [Value.ownBlock]))
    have hB5 := hB4.kept hw45 (.inr (fun h => by have := (hAL gb h.symm).2; omega))
    have hW5 := hW4.kept hw45 (.inr (fun h => by have := (hAL gw h.symm).2; omega))
    have key : ∀ g, g5 ≠ g → (w5.setCell ⟨g5, 0, none⟩ (.string ⟨#[33]⟩)).cell? ⟨g, j, none⟩ = w5.cell? ⟨g, j, none⟩ := fun g hg => World.cell?_of_block (Below.heap_setCell _ _ _ _ (fun h => hg h.symm))
    refine ⟨x, gb, gw, rfl, rfl, ?_, ?_⟩
    · rw [key gb hne.1, hB5.cellAt j (by omega), hxj]
    · rw [key gw hne.2, hW5.cellAt j (by omega), hxj]
end Go.Proofs.Ytmcechcigehjbab
