/- Division by 2^64, word by word: plain laws. -/
import Derived.Test.YtopefdcmmmjihaaBigmod
import Derived.Test.YtopefdcmmmjihaaBigleft
import Derived.Test.YtopefdcmmmjihaaBigright
namespace Go.Proofs.Ytopefdcmmmjihaa
open Go.RowKit

theorem or_high {x y : Int} (h0 : 0 ≤ x) (h1 : x < 4294967296) (h2 : 0 ≤ y) (h3 : y < 4294967296) : bits .or .u64 (y * 4294967296) x = x + 4294967296 * y := by
  obtain ⟨a, rfl⟩ := Int.eq_ofNat_of_zero_le h0
  obtain ⟨b, rfl⟩ := Int.eq_ofNat_of_zero_le h2
  have e : ((b : Int) * 4294967296) = ((b * 4294967296 : Nat) : Int) := by omega
  rw [e, u64_or_nat _ _ (by omega) (by omega), nat_join 32 _ _ (by omega) (by omega)]
  omega
def M95 : Int := 39614081257132168796771975168
theorem M95_is : M95 = 2147483648 * 18446744073709551616 := by decide
theorem top2 : top 2 = 18446744073709551616 := by decide
theorem top_dvd (s : Nat) : ∃ q, top (s + 2) * 2147483648 = M95 * q := ⟨top s, by rw [top_add, top2, M95_is, Int.mul_comm (top s), Int.mul_assoc, Int.mul_comm (top s), ← Int.mul_assoc, Int.mul_comm 18446744073709551616]⟩
/-- One round keeps what is left of a division by 2^95. -/
theorem knu_round {us : List Int} {s : Nat} (hs : s + 3 < us.length) :
    nv ((us.set (s + 2) (us.getD (s + 2) 0 % 2147483648)).set (s + 3) 0) % M95 = nv us % M95 := by
  obtain ⟨q, hq⟩ := top_dvd s
  rw [nv_set _ _ _ (by rw [List.length_set]; exact hs), getD_set_ne _ (by omega), nv_set _ _ _ (by omega)]
  generalize us.getD (s + 2) 0 = x2 at *
  generalize us.getD (s + 3) 0 = x3 at *
  have e3 : top (s + 3) = 4294967296 * top (s + 2) := rfl
  have e4 : x2 % 2147483648 - x2 = - (2147483648 * (x2 / 2147483648)) := by omega
  have e : nv us + top (s + 2) * (x2 % 2147483648 - x2) + top (s + 3) * (0 - x3) = nv us + M95 * (- q * (x2 / 2147483648) - 2 * q * x3) := by
    rw [e4, e3]
    have a1 : top (s + 2) * (-(2147483648 * (x2 / 2147483648))) = - (top (s + 2) * 2147483648) * (x2 / 2147483648) := by
      rw [Int.mul_neg, ← Int.mul_assoc, Int.neg_mul]
    have a2 : 4294967296 * top (s + 2) * (0 - x3) = - (2 * ((top (s + 2) * 2147483648) * x3)) := by
      rw [Int.zero_sub, Int.mul_neg, show (4294967296 : Int) = 2 * 2147483648 from rfl, Int.mul_assoc 2, Int.mul_comm 2147483648, Int.mul_assoc 2]
    rw [a1, a2, hq, Int.mul_sub]
    have b1 : -(M95 * q) * (x2 / 2147483648) = M95 * (-q * (x2 / 2147483648)) := by rw [← Int.mul_neg, Int.mul_assoc]
    have b2 : 2 * (M95 * q * x3) = M95 * (2 * q * x3) := by rw [Int.mul_assoc M95, Int.mul_left_comm 2 M95, Int.mul_assoc 2]
    rw [b1, b2]
    omega
  rw [e, Int.add_mul_emod_self_left]
theorem nv_append_zeros (l : List Int) (n : Nat) : nv (l ++ List.replicate n 0) = nv l := by
  induction l with
  | nil => simp [nv]; exact nv_zeros (fun x hx => (List.mem_replicate.1 hx).2)
  | cons a l ih => simp only [List.cons_append, nv, ih]
/-- Three words and noughts behind. -/
theorem nv_three {us : List Int} (hw : Wds us) (hz : ∀ p, 2 < p → us.getD p 0 = 0) (h2 : us.getD 2 0 < 2147483648) : 0 ≤ nv us ∧ nv us < M95 := by
  have hr := (nv_range hw).1
  refine ⟨hr, ?_⟩
  have e : nv (us.take 3) = nv us := by
    apply nv_take
    intro x hx
    obtain ⟨i, hi, rfl⟩ := List.getElem_of_mem hx
    rw [List.getElem_drop]
    simp at hi
    have := hz (3 + i) (by omega)
    rw [List.getD_eq_getElem?_getD, List.getElem?_eq_getElem (by omega)] at this
    exact this
  have w0 : ∀ p, 0 ≤ us.getD p 0 ∧ us.getD p 0 < 4294967296 := fun p => by
    by_cases h : p < us.length
    · rw [List.getD_eq_getElem?_getD, List.getElem?_eq_getElem h]; exact hw _ (List.getElem_mem h)
    · rw [getD_far (by omega)]; omega
  have t0 : top 0 = 1 := rfl
  have t1 : top 1 = 4294967296 := by decide
  have t2 := top2
  have e3 := nv_take_succ us 2
  have e2 := nv_take_succ us 1
  have e1 := nv_take_succ us 0
  have e0 : nv (us.take 0) = 0 := rfl
  have a0 := w0 0
  have a1 := w0 1
  have a2 := w0 2
  have m : M95 = 39614081257132168796771975168 := rfl
  simp only [Nat.zero_add, Nat.reduceAdd] at e1 e2 e3
  rw [t0] at e1
  rw [t1] at e2
  rw [t2] at e3
  omega
theorem knu_end {X Y : Int} (h0 : 0 ≤ Y) (h1 : Y < M95) (h : Y % M95 = (X * 2147483648) % M95) : Y / 2 ^ 31 = X % 18446744073709551616 := by
  rw [Int.emod_eq_of_lt h0 h1, Int.mul_comm X, M95_is, Int.mul_emod_mul_of_pos _ _ (by decide)] at h
  rw [h, show (2 : Int) ^ 31 = 2147483648 from rfl, Int.mul_ediv_cancel_left _ (by decide)]
/-- The quotient's digit, and what is left of it. -/
theorem knu_digit {x3 x2 : Int} (h0 : 0 ≤ x3) (h1 : x3 < 2147483648) (h2 : 0 ≤ x2) (h3 : x2 < 4294967296) :
    ∃ g r, (x2 + 4294967296 * x3) / 2147483648 = g ∧ (x2 + 4294967296 * x3) % 2147483648 = r ∧ 0 ≤ g ∧ g ≤ 4294967295 ∧ 0 ≤ r ∧ r < 2147483648 ∧ (g * 2147483648) % 4294967296 = x2 - x2 % 2147483648 ∧ (g * 2147483648) / 4294967296 = x3 ∧ 0 ≤ g * 2147483648 ∧ g * 2147483648 ≤ 9223372036854775807 := by
  refine ⟨_, _, rfl, rfl, ?_⟩
  omega
theorem set_same (l : List Int) (p : Nat) (h : p < l.length) : l.set p (l.getD p 0) = l := by
  rw [List.getD_eq_getElem?_getD, List.getElem?_eq_getElem h]
  exact List.set_getElem_self h
theorem Row.frozen {w : World} {g n cap : Nat} {ws : List Int} (h : Row w (.slice (some ⟨g, 0, none⟩) n cap) ws) (j : Nat) : w.frozen? ⟨g, j, none⟩ = false := by
  obtain rfl := len_of h
  exact h.1.frozenAt j
theorem Row.stored {w : World} {g n cap : Nat} {ws : List Int} (h : Row w (.slice (some ⟨g, 0, none⟩) n cap) ws) (j : Nat) {x : Int} (hx : 0 ≤ x ∧ x < 4294967296) :
    Row (w.setCell ⟨g, j, none⟩ (.int .u32 x)) (.slice (some ⟨g, 0, none⟩) n cap) (ws.set j x) ∧ w.grownBy (w.setCell ⟨g, j, none⟩ (.int .u32 x)) (some g) := by
  have hw := h.wds
  obtain rfl := len_of h
  obtain ⟨o, gr⟩ := h.1.stored j (.int .u32 x)
  refine ⟨row_of (n := ws.length) (by simp) (by rw [List.map_set]; exact o) (hw.set hx _), gr⟩
theorem getD_set_here {l : List Int} {p : Nat} (x : Int) (h : p < l.length) : (l.set p x).getD p 0 = x := by
  rw [List.getD_eq_getElem?_getD, List.getElem?_set_self h]; rfl
theorem getD_zeros_behind (l : List Int) (n p : Nat) (h : l.length ≤ p) : (l ++ List.replicate n 0).getD p 0 = 0 := by
  rw [List.getD_eq_getElem?_getD, List.getElem?_append_right h, ← List.getD_eq_getElem?_getD]
  rw [List.getD_eq_getElem?_getD, List.getElem?_replicate]; split <;> rfl
/-- What the round's three stores leave. -/
theorem knu_zeros {us : List Int} {s : Nat} {y : Int} (hl : s + 3 < us.length) (hz : ∀ p, s + 1 + 2 < p → us.getD p 0 = 0) (hy : y < 2147483648) :
    (∀ p, s + 2 < p → ((us.set (s + 2) y).set (s + 3) 0).getD p 0 = 0) ∧ ((us.set (s + 2) y).set (s + 3) 0).getD (s + 2) 0 < 2147483648 := by
  refine ⟨fun p hp => ?_, ?_⟩
  · by_cases h : p = s + 3
    · subst h; exact getD_set_here _ (by rw [List.length_set]; exact hl)
    · rw [getD_set_ne _ (by omega), getD_set_ne _ (by omega)]; exact hz p (by omega)
  · rw [getD_set_ne _ (by omega), getD_set_here _ (by omega)]; exact hy
end Go.Proofs.Ytopefdcmmmjihaa
