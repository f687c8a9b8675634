/- Contracts of the big numbers: SetInt64, NewInt, whole. -/
import Derived.Test.YtncjaohiimenaaaDoorBig2
namespace Go.Proofs.YtncjaohiimenaaaDoor
set_option maxRecDepth 100000
open Go.ChangeShapes Go.WideShapes Go.ChangeAt Go.RowKit

/-- Block b holds the whole number z. -/
def Big (w : World) (b : Nat) (z : Int) : Prop := ∃ neg v ws, IntBlock w b neg v ∧ Row w v ws ∧ Norm ws ∧ (neg = true → ws ≠ []) ∧ z = if neg then - nv ws else nv ws
theorem Row.not_int {w : World} {b : Nat} {neg : Bool} {v u : Value} {ws : List Int} (h : Row w v ws) (hi : IntBlock w b neg u) : v.ownBlock ≠ some b := by
  intro e
  rcases h.1.2 with ⟨rfl, _⟩ | ⟨g, cap, cur, rfl, _, hh, _⟩
  · cases e
  · cases e
    unfold IntBlock at hi
    rw [hi] at hh
    simp at hh
theorem Big.below {w w' : World} {b : Nat} {z : Int} (h : Big w b z) (hb : Below w.heap.size w w') : Big w' b z := by
  obtain ⟨neg, v, ws, h1, h2, h3⟩ := h
  exact ⟨neg, v, ws, (hb.block b h1.lt).trans h1, h2.below hb, h3⟩
theorem Row.grown {w w' : World} {v : Value} {ws : List Int} {r : Nat} (h : Row w v ws) (hg : w.grownBy w' (some r)) (hne : v.ownBlock ≠ some r) : Row w' v ws :=
  row_kept h fun k hk => hg.block k (h.lt k hk) (by rw [← hk]; exact hne)
/-- A number is made of a row that 'give' has got. -/
theorem big_given {w w' : World} {b : Nat} {neg : Bool} {ao : Option Addr} {n cap : Nat} {ws : List Int} {n0 : Bool} {v0 : Value} (h0 : IntBlock w b n0 v0) (hr : Row w (.slice ao n cap) ws) (hn : Norm ws)
    (hi : IntBlock w' b (neg && decide (0 < n)) (.slice ao n cap)) (hg : w.grownBy w' (some b)) : Big w' b (if neg then - nv ws else nv ws) := by
  have hl : ws.length = n := by
    rcases hr.shape with ⟨h1, h2⟩ | ⟨g, c, h1, _⟩
    · cases h1; rw [h2]; rfl
    · cases h1; rfl
  refine ⟨_, _, ws, hi, hr.grown hg (hr.not_int h0), hn, fun h e => ?_, ?_⟩
  · subst e
    simp at hl
    subst hl
    simp at h
  · cases neg
    · simp
    · by_cases hz : n = 0
      · subst hz
        have : ws = [] := List.length_eq_zero_iff.1 hl
        subst this
        simp [nv]
      · have : decide (0 < n) = true := by simp; omega
        simp [this]
/-- The shape of a row's slice, with its bounds. -/
theorem Row.slice {w : World} {v : Value} {ws : List Int} (h : Row w v ws) : ∃ ao n cap, v = .slice ao n cap ∧ n ≤ maxLen ∧ n = ws.length := by
  rcases h.shape with ⟨rfl, rfl⟩ | ⟨g, cap, rfl, h1, h2, _⟩
  · exact ⟨none, 0, 0, rfl, by unfold maxLen; omega, rfl⟩
  · exact ⟨_, _, cap, rfl, by omega, rfl⟩

set_option maxHeartbeats 800000 in
theorem setInt64_any (b : Nat) (n0 : Bool) (v0 : Value) (x : Int) (hx0 : -9223372036854775808 ≤ x) (hx1 : x ≤ 9223372036854775807) (w : World) (h : IntBlock w b n0 v0) :
    Calls Tryd.prog 47 #[.pointer (some ⟨b, 0, none⟩), .int .i64 x] w fun e w' => e = .returned (.pointer (some ⟨b, 0, none⟩)) ∧ Big w' b x ∧ w.grownBy w' (some b) := by
  have HB : Hid (IntBlock w b n0 v0) := h
  clear h
  by_cases hn : x < 0
  · have hu : IntKind.u64.wrap (- IntKind.u64.wrap x) = - x := by simp only [IntKind.wrap_u64]; omega
    go_enter Tryd.func47, Tryd.ntmps47
    go_wp2_with fail
    refine (words_any _ (by omega) (by omega) _).mono ?_
    rintro e w1 ⟨v, ws, rfl, hr, hnorm, hv, hb⟩
    obtain ⟨ao, n, cap, rfl, hm, -⟩ := hr.slice
    have hi1 : IntBlock w1 b n0 v0 := (hb.block b HB.out.lt).trans HB.out
    have HR : Hid (Row w1 (.slice ao n cap) ws) := hr
    have HI : Hid (IntBlock w1 b n0 v0) := hi1
    have HV : Hid (nv ws = - x) := hv
    clear hr hi1 hv hu
    go_wp2_with fail
    refine (give_any b n0 v0 _ ao n cap w1 hm HI.out).mono ?_
    rintro e w2 ⟨rfl, hi2, hg2⟩
    go_wp2
    go_ret
    refine ⟨rfl, ?_, grown_trans (grown_of_below hb) hg2⟩
    have := big_given HI.out HR.out hnorm hi2 hg2
    simp only [if_true, HV.out, Int.neg_neg] at this
    exact this
  · go_enter Tryd.func47, Tryd.ntmps47
    go_wp2_with fail
    refine (words_any _ (by omega) (by omega) _).mono ?_
    rintro e w1 ⟨v, ws, rfl, hr, hnorm, hv, hb⟩
    obtain ⟨ao, n, cap, rfl, hm, -⟩ := hr.slice
    have hi1 : IntBlock w1 b n0 v0 := (hb.block b HB.out.lt).trans HB.out
    have HR : Hid (Row w1 (.slice ao n cap) ws) := hr
    have HI : Hid (IntBlock w1 b n0 v0) := hi1
    have HV : Hid (nv ws = x) := hv
    clear hr hi1 hv
    go_wp2_with fail
    refine (give_any b n0 v0 _ ao n cap w1 hm HI.out).mono ?_
    rintro e w2 ⟨rfl, hi2, hg2⟩
    go_wp2
    go_ret
    refine ⟨rfl, ?_, grown_trans (grown_of_below hb) hg2⟩
    have := big_given HI.out HR.out hnorm hi2 hg2
    simp only [HV.out] at this
    exact this

theorem int_new (w : World) : IntBlock (w.alloc (.cells #[.bool false, .slice none 0 0] 75)) w.heap.size false (.slice none 0 0) := heap_alloc_new w _
theorem newInt_any (x : Int) (hx0 : -9223372036854775808 ≤ x) (hx1 : x ≤ 9223372036854775807) (w : World) :
    Calls Tryd.prog 41 #[.int .i64 x] w fun e w' => ∃ b, e = .returned (.pointer (some ⟨b, 0, none⟩)) ∧ w.heap.size ≤ b ∧ Big w' b x ∧ Below w.heap.size w w' := by
  go_enter Tryd.func41, Tryd.ntmps41
  go_wp2_with fail
  refine (setInt64_any _ _ _ x hx0 hx1 _ (int_new w)).mono ?_
  rintro e w1 ⟨rfl, hbig, hg⟩
  go_wp2
  go_ret
  exact ⟨_, rfl, Nat.le_refl _, hbig, below_grown ((Below.refl _ _).alloc (Nat.le_refl _) _) hg (Nat.le_refl _)⟩
theorem whole_any (x : Int) (hx0 : -9223372036854775808 ≤ x) (hx1 : x ≤ 9223372036854775807) (w : World) :
    Calls Tryd.prog 35 #[.int .i64 x] w fun e w' => ∃ b, e = .returned (.pointer (some ⟨b, 0, none⟩)) ∧ w.heap.size ≤ b ∧ Big w' b x ∧ Below w.heap.size w w' := by
  go_enter Tryd.func35, Tryd.ntmps35
  go_wp2_with fail
  refine (newInt_any x hx0 hx1 _).mono ?_
  rintro e w1 ⟨b, rfl, hb⟩
  go_wp2
  go_ret
  exact ⟨b, rfl, hb⟩
end Go.Proofs.YtncjaohiimenaaaDoor
