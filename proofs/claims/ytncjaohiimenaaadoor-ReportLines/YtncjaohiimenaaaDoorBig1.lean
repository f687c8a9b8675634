/- Contracts of the big numbers' words: trim, words, give, SetInt64, NewInt, whole. -/
import Derived.Test.YtncjaohiimenaaaDoorRows
import Derived.Test.YtncjaohiimenaaaDoorBigPlain
import Derived.WalkKit
import Derived.ProofKit
import Derived.OpenShut
import Derived.Handy
import Derived.Maps.OwnRows
import Derived.Laws.OwnMore
namespace Go.Proofs.YtncjaohiimenaaaDoor
set_option maxRecDepth 100000
open Go.ChangeShapes Go.WideShapes Go.ChangeAt Go.RowKit

/-- A slice value that leads to a row of words. -/
def Row (w : World) (v : Value) (ws : List Int) : Prop := w.ownsInts 0 77 .u32 v ws
theorem Row.wds {w : World} {v : Value} {ws : List Int} (h : Row w v ws) : Wds ws := by
  intro x hx
  have := h.2 x hx
  simp [Lit.wf, IntKind.min, IntKind.max, IntKind.bits, IntKind.signed] at this
  omega
theorem row_kept {w w' : World} {v : Value} {ws : List Int} (h : Row w v ws) (hb : ∀ k, v.ownBlock = some k → w'.heap[k]? = w.heap[k]?) : Row w' v ws := by
  obtain ⟨⟨h1, h2⟩, h3⟩ := h
  refine ⟨⟨h1, ?_⟩, h3⟩
  rcases h2 with h2 | ⟨g, cap, cur, rfl, hg, hh, r1, r2, r3, r4⟩
  · exact .inl h2
  · exact .inr ⟨g, cap, cur, rfl, hg, by rw [hb g rfl]; exact hh, r1, r2, r3, r4⟩
theorem Row.lt {w : World} {v : Value} {ws : List Int} (h : Row w v ws) : ∀ k, v.ownBlock = some k → k < w.heap.size := fun k hk => (h.1.lt k hk).2
theorem Row.below {w w' : World} {v : Value} {ws : List Int} (h : Row w v ws) (hb : Below w.heap.size w w') : Row w' v ws :=
  row_kept h fun k hk => hb.block k (h.lt k hk)
/-- The two shapes of such a slice. -/
theorem Row.shape {w : World} {v : Value} {ws : List Int} (h : Row w v ws) :
    (v = .slice none 0 0 ∧ ws = []) ∨ ∃ g cap, v = .slice (some ⟨g, 0, none⟩) ws.length cap ∧ ws.length ≤ cap ∧ cap ≤ maxLen ∧ (∀ j, j < ws.length → w.cell? ⟨g, j, none⟩ = some (.int .u32 (ws.getD j 0))) ∧
      ∀ k, k ≤ ws.length → Row w (.slice (some ⟨g, 0, none⟩) k cap) (ws.take k) := by
  have hr := h
  obtain ⟨⟨h1, h2⟩, h3⟩ := h
  rcases h2 with ⟨rfl, h2⟩ | ⟨g, cap, cur, rfl, hg, hh, r1, r2, r3, r4⟩
  · exact .inl ⟨rfl, List.length_eq_zero_iff.1 h2⟩
  · refine .inr ⟨g, cap, rfl, r1, r2, fun j hj => ?_, fun k hk => ⟨⟨by simp, .inr ⟨g, cap, cur, by simp [Nat.min_eq_left hk], Nat.zero_le _, hh, by simp; omega, r2, r3, ?_⟩⟩, fun z hz => h3 z (List.mem_of_mem_take hz)⟩⟩
    · have := hr.1.cellAt j (by omega)
      rw [this, List.getElem?_map, List.getElem?_eq_getElem hj, List.getD_eq_getElem?_getD, List.getElem?_eq_getElem hj]
      rfl
    · have e : (ws.take k).length * 1 = k := by simp; omega
      rw [e, List.map_take, ← r4, List.take_take]
      congr 1
      omega

set_option maxHeartbeats 800000 in
theorem trim_any (v : Value) (ws : List Int) (w : World) (h : Row w v ws) :
    Calls Tryd.prog 54 #[v] w fun e w' => w' = w ∧ ∃ (k : Nat) (v' : Value), e = .returned v' ∧ k ≤ ws.length ∧ Row w v' (ws.take k) ∧ v'.ownBlock = v.ownBlock ∧ (∀ x ∈ ws.drop k, x = 0) ∧ (k = 0 ∨ ws[k - 1]? ≠ some 0) := by
  rcases h.shape with ⟨rfl, rfl⟩ | ⟨g, cap, rfl, hcap, hmax, hcell, hrow⟩
  · have HR : Hid (Row w (.slice none 0 0) []) := h
    clear h
    go_enter Tryd.func54, Tryd.ntmps54
    go_wp2
    refine wp_loop_rounds 1 ?_
    rw [rounds_succ]
    go_wp2
    go_ret
    exact ⟨rfl, 0, _, rfl, Nat.zero_le _, HR.out, rfl, by simp, .inl rfl⟩
  · have HC : Hid (∀ j, j < ws.length → w.cell? ⟨g, j, none⟩ = some (.int .u32 (ws.getD j 0))) := hcell
    have HR : Hid (∀ k, k ≤ ws.length → Row w (.slice (some ⟨g, 0, none⟩) k cap) (ws.take k)) := hrow
    clear h hcell hrow
    unfold maxLen at hmax
    generalize hn : ws.length = n at *
    have HN : Hid (ws.length = n) := hn
    clear hn
    go_enter Tryd.func54, Tryd.ntmps54
    go_wp2
    go_loop [3] (fun t => ∃ k : Nat, k ≤ n ∧ t = .int .i64 k ∧ Hid (∀ j, k ≤ j → j < n → ws.getD j 0 = 0)) (fun t => (intOf t).toNat)
    case atStart => exact ⟨n, Nat.le_refl _, rfl, fun j h1 h2 => by omega⟩
    case round =>
      obtain ⟨k, hk, rfl, HZ⟩ := hrel
      have hfin : (k = 0 ∨ ws[k - 1]? ≠ some 0) → ∀ x ∈ ws.drop k, x = 0 := fun _ x hx => by
        obtain ⟨i, hi, rfl⟩ := List.getElem_of_mem hx
        rw [List.getElem_drop]
        simp at hi
        have := HZ.out (k + i) (by omega) (by rw [← HN.out]; omega)
        rw [List.getD_eq_getElem?_getD, List.getElem?_eq_getElem (by omega)] at this
        exact this
      have HF : Hid ((k = 0 ∨ ws[k - 1]? ≠ some 0) → ∀ x ∈ ws.drop k, x = 0) := hfin
      clear hfin
      rcases Nat.eq_zero_or_pos k with rfl | hpos
      · go_wp2
        go_ret
        exact ⟨rfl, 0, _, rfl, Nat.zero_le _, HR.out 0 (Nat.zero_le _), rfl, HF.out (by simp), .inl rfl⟩
      · obtain ⟨j, rfl⟩ : ∃ j, k = j + 1 := ⟨k - 1, by omega⟩
        have hc := HC.out j (by omega)
        generalize hx : ws.getD j 0 = x at hc
        have HX : Hid (ws.getD j 0 = x) := hx
        clear hx
        by_cases hz : x = 0
        · subst hz
          go_wp2
          go_round
          case rel =>
            refine ⟨j, by omega, by go_num, fun i h1 h2 => ?_⟩
            by_cases hij : i = j
            · subst hij; exact HX.out
            · exact HZ.out i (by omega) h2
          case measure => simp [intOf]
        · have hb : (x == 0) = false := by simpa using hz
          go_wp2
          go_ret
          have hne : ws[j + 1 - 1]? ≠ some 0 := by
            intro e
            apply hz
            rw [← HX.out, List.getD_eq_getElem?_getD, show j = j + 1 - 1 from rfl, e]
            rfl
          exact ⟨rfl, j + 1, _, rfl, hk, HR.out (j + 1) hk, rfl, HF.out (.inr hne), .inr hne⟩
end Go.Proofs.YtncjaohiimenaaaDoor
