/- What panicroadref.Params and Result answer; two lists of texts held against each other. -/
import Derived.Test.YtmcechcigehjbaaRefparts2
namespace Go.Proofs.Ytmcechcigehjbaa
open Go.ChangeShapes Go.WideShapes Go.ChangeAt Go.RowKit
set_option maxRecDepth 100000
set_option linter.unusedSimpArgs false

/-- A list of texts, as it lies in memory. -/
def Reads (w : World) (v : Value) (xs : List ByteArray) : Prop := ∃ (ao : Option Addr) (cv : Nat), v = .slice ao xs.length cv ∧ (xs ≠ [] → ∃ g, ao = some ⟨g, 0, none⟩ ∧ ∀ (k : Nat) x, xs[k]? = some x → w.cell? ⟨g, k, none⟩ = some (.string x))
theorem reads_of {w : World} {B n : Nat} {v : Value} {xs : List ByteArray} (h : w.ownsRow B 9 1 v n (xs.map Value.string)) (hn : n = xs.length) : Reads w v xs := by
  subst hn
  rcases h.2 with ⟨h1, h2⟩ | ⟨g, cap, _, h1, _⟩
  · refine ⟨none, 0, ?_, fun hx => absurd (List.length_eq_zero_iff.1 h2) hx⟩
    rw [h1, h2]
  · refine ⟨some ⟨g, 0, none⟩, cap, h1, fun _ => ⟨g, rfl, fun k x hk => ?_⟩⟩
    subst h1
    have hlt : k < xs.length := (List.getElem?_eq_some_iff.1 hk).1
    rw [h.cellAt k (by omega), List.getElem?_map, hk]
    rfl
theorem Reads.below {w w' : World} {v : Value} {xs : List ByteArray} (h : Reads w v xs) (hb : Below w.heap.size w w') : Reads w' v xs := by
  obtain ⟨ao, cv, h1, h2⟩ := h
  refine ⟨ao, cv, h1, fun hx => ?_⟩
  obtain ⟨g, e, hc⟩ := h2 hx
  refine ⟨g, e, fun k x hk => ?_⟩
  have h0 := hc k x hk
  rw [hb.cell (p := ⟨g, k, none⟩) (World.block_lt_of_cell? _ _ h0)]
  exact h0
set_option maxHeartbeats 1000000 in
theorem ref_res (t : ByteArray) (w : World) (ht : t.size ≤ maxLen) :
    Calls Try.prog 15 #[.string t] w fun e w' => e = .returned (.tuple #[.string (resV t.data.toList), .int .i64 (errV t.data.toList)]) ∧ Below w.heap.size w w' := by
  unfold resV errV
  cases hv : validF t.data.toList with
  | false =>
    rw [if_neg (by simp), if_neg (by simp)]
    have HP : Hid _ := ref_pieces_no t w ht hv
    clear hv
    go_enter Try.func15, Try.ntmps15
    go_wp2_with fail
    refine Calls.mono HP.out ?_
    rintro e w1 ⟨rfl, b1⟩
    go_wp2_with fail
    go_ret2
    exact ⟨rfl, b1⟩
  | true =>
    rw [if_pos rfl, if_pos rfl]
    have HP : Hid _ := ref_pieces_yes t w hv
    have hl4 := parT_len t.data.toList
    generalize (⟨(resT t.data.toList).toArray⟩ : ByteArray) = r at *
    generalize parT t.data.toList = xs at *
    clear hv
    go_enter Try.func15, Try.ntmps15
    go_wp2_with fail
    refine Calls.mono HP.out ?_
    rintro e w1 ⟨g, cap, rfl, hown, b1⟩
    have hc : w1.cell? ⟨g, xs.length, none⟩ = some (.string r) := by
      rw [hown.cellAt xs.length (by omega)]
      simp
    have HB : Hid (Below w.heap.size w w1) := b1
    clear hown b1
    go_wp2_with fail
    go_ret2
    exact ⟨rfl, HB.out⟩
set_option maxHeartbeats 1000000 in
theorem ref_pars (t : ByteArray) (w : World) (ht : t.size ≤ maxLen) :
    Calls Try.prog 12 #[.string t] w fun e w' => ∃ v, e = .returned (.tuple #[v, .int .i64 (errV t.data.toList)]) ∧ Reads w' v (parT t.data.toList) ∧ Below w.heap.size w w' := by
  unfold errV
  cases hv : validF t.data.toList with
  | false =>
    rw [if_neg (by simp)]
    have e0 : parT t.data.toList = [] := by unfold parT; rw [hv]; rfl
    rw [e0]
    have HP : Hid _ := ref_pieces_no t w ht hv
    clear hv e0
    go_enter Try.func12, Try.ntmps12
    go_wp2_with fail
    refine Calls.mono HP.out ?_
    rintro e w1 ⟨rfl, b1⟩
    go_wp2_with fail
    go_ret2
    exact ⟨_, rfl, ⟨none, 0, rfl, fun h => absurd rfl h⟩, b1⟩
  | true =>
    rw [if_pos rfl]
    have HP : Hid _ := ref_pieces_yes t w hv
    have hl4 := parT_len t.data.toList
    generalize (⟨(resT t.data.toList).toArray⟩ : ByteArray) = r at *
    generalize parT t.data.toList = xs at *
    clear hv
    go_enter Try.func12, Try.ntmps12
    go_wp2_with fail
    refine Calls.mono HP.out ?_
    rintro e w1 ⟨g, cap, rfl, hown, b1⟩
    have hcap : xs.length + 1 ≤ cap := by
      rcases hown.2 with ⟨h, _⟩ | ⟨g', cap', cur, h, _, _, h3, _⟩
      · cases h
      · cases h; exact h3
    have HR : Hid (Reads w1 (.slice (some ⟨g, 0, none⟩) xs.length cap) xs) := ⟨_, _, rfl, fun _ => ⟨g, rfl, fun k x hk => by
      have hlt : k < xs.length := (List.getElem?_eq_some_iff.1 hk).1
      rw [hown.cellAt k (by omega), List.getElem?_append_left (by simpa using hlt), List.getElem?_map, hk]
      rfl⟩⟩
    have HB : Hid (Below w.heap.size w w1) := b1
    clear hown b1
    go_wp2_with fail
    go_ret2
    exact ⟨_, rfl, HR.out, HB.out⟩
end Go.Proofs.Ytmcechcigehjbaa
