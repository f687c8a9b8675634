/- A list of texts that came in. -/
import Derived.Test.YtmcechcigehjbaaRows
import Derived.WalkKit
import Derived.ProofKit
import Derived.OpenShut
import Derived.Handy
import Derived.SliceStrings
import Derived.SizedLaws
import Derived.Carry
namespace Go.Proofs.Ytmcechcigehjbaa
open Go.ChangeShapes Go.WideShapes Go.ChangeAt Go.RowKit

theorem Try.cellsStr : Try.prog.cellsOf 9 = 1 := by kernel_rfl
theorem Try.bytesStr : Try.prog.bytesOf 9 = 16 := by kernel_rfl
/-- A list of texts as it came in. -/
def Came (w : World) (v : Value) (xs : List ByteArray) : Prop :=
  (v = .slice none 0 0 ∧ xs = []) ∨ ∃ (a : Addr) (cap : Nat), v = .slice (some a) xs.length cap ∧ xs.length ≤ cap ∧ (xs ≠ [] → a.spot = none) ∧ ∀ (k : Nat) x, xs[k]? = some x → w.cell? (a.add k) = some (.string x)
theorem came_of {H : Type} {enc : TypeId × Value → H} {W : World} {a0 : Option Addr} {len cap fuel : Nat} {x : DataW H × List MemPlace}
    (hf : DataW.trod enc Try.prog W 0 (fun _ => true) true fuel 23 [.slice a0 len cap] = some x) :
    ∃ xs : List ByteArray, Came W (.slice a0 len cap) xs ∧ (∀ s ∈ xs, s.size ≤ maxLen) ∧ (xs = [] ∨ ∃ spare, x.1 = .slice (strs xs) spare) := by
  rcases open_strings Try.underlying23 Try.underlying9 Try.cellsStr hf with ⟨hcs, hx⟩ | ⟨a, len', cap', ss, hcs, _, hl, hm, hz, hx, hcell, hsz⟩
  · simp at hcs
    obtain ⟨rfl, rfl, rfl⟩ := hcs
    exact ⟨[], .inl ⟨rfl, rfl⟩, fun s hs => (by cases hs), .inl rfl⟩
  · simp at hcs
    obtain ⟨rfl, rfl, rfl⟩ := hcs
    subst hx
    simp only [if_true] at hz
    have hlen : (ss.take len).length = len := by simp; omega
    refine ⟨ss.take len, .inr ⟨a, cap, by rw [hlen], by rw [hlen]; exact hl, fun hne => ?_, fun j X hX => ?_⟩, fun s hs => hsz s (List.mem_of_mem_take hs), .inr ⟨_, rfl⟩⟩
    · have h0 : 0 < len := by
        rcases Nat.eq_zero_or_pos len with h | h
        · exfalso; apply hne; rw [h]; rfl
        · exact h
      have := World.cell?_spot (hcell 0 (by omega))
      simpa [Addr.add] using this
    · have hj : j < len := by
        have := (List.getElem?_eq_some_iff.1 hX).1
        omega
      have hX' : ss.getD j ByteArray.empty = X := by
        rw [List.getElem?_take_of_lt hj] at hX
        simp [List.getD, hX]
      rw [← hX']
      exact hcell j (by omega)
theorem Came.below {w w' : World} {v : Value} {xs : List ByteArray} (h : Came w v xs) (hb : Below w.heap.size w w') : Came w' v xs := by
  rcases h with h | ⟨a, cap, h1, h2, h3, h4⟩
  · exact .inl h
  · refine .inr ⟨a, cap, h1, h2, h3, fun k x hk => ?_⟩
    have h0 := h4 k x hk
    rw [hb.cell (World.block_lt_of_cell? _ _ h0)]
    exact h0
/-- Its cells, one by one. -/
theorem Came.cells {w : World} {v : Value} {xs : List ByteArray} (h : Came w v xs) (hne : xs ≠ []) : ∃ b off cap, v = .slice (some ⟨b, off, none⟩) xs.length cap ∧ xs.length ≤ cap ∧ ∀ (k : Nat) x, xs[k]? = some x → w.cell? ⟨b, off + k, none⟩ = some (.string x) := by
  rcases h with ⟨_, h⟩ | ⟨⟨b, off, spot⟩, cap, h1, h2, h3, h4⟩
  · exact absurd h hne
  · have := h3 hne
    simp only at this
    subst this
    refine ⟨b, off, cap, h1, h2, fun k x hk => ?_⟩
    have := h4 k x hk
    rcases Nat.eq_zero_or_pos k with rfl | hk0
    · simpa [Addr.add] using this
    · have hk' : ¬ k = 0 := by omega
      simpa [Addr.add, hk'] using this
end Go.Proofs.Ytmcechcigehjbaa
