/- Products of words: plain laws. -/
import Derived.Test.YtjmklmcnlieplaaDoorAddplain
namespace Go.Proofs.YtjmklmcnlieplaaDoor
set_option maxRecDepth 100000

theorem top_add (i j : Nat) : top (i + j) = top i * top j := by
  induction j with
  | zero => simp [top]
  | succ j ih =>
    have e : top (i + (j + 1)) = 4294967296 * top (i + j) := rfl
    have e2 : top (j + 1) = 4294967296 * top j := rfl
    rw [e, e2, ih, Int.mul_left_comm]
theorem nv_set : ∀ (l : List Int) (p : Nat) (x : Int), p < l.length → nv (l.set p x) = nv l + top p * (x - l.getD p 0)
  | [], p, x, h => by simp at h
  | y :: l, 0, x, _ => by simp [nv, top]; omega
  | y :: l, p + 1, x, h => by
    have ih := nv_set l p x (by simpa using h)
    have e : top (p + 1) = 4294967296 * top p := rfl
    simp only [List.set_cons_succ, nv, ih, e, List.getD_cons_succ]
    rw [Int.mul_add, Int.mul_assoc]; omega
theorem getD_set_ne {l : List Int} {p t : Nat} (x : Int) (h : p ≠ t) : (l.set p x).getD t 0 = l.getD t 0 := by
  rw [List.getD_eq_getElem?_getD, List.getElem?_set_ne h, List.getD_eq_getElem?_getD]
theorem mul_step {b rs : List Int} {i j : Nat} {c x N0 : Int} (hp : i + j < rs.length)
    (h : nv rs + top (i + j) * c = N0 + top i * x * nv (b.take j)) :
    nv (rs.set (i + j) ((c + (x * b.getD j 0 + rs.getD (i + j) 0)) % 4294967296)) + top (i + (j + 1)) * ((c + (x * b.getD j 0 + rs.getD (i + j) 0)) / 4294967296) = N0 + top i * x * nv (b.take (j + 1)) := by
  rw [nv_set _ _ _ hp, nv_take_succ b]
  have e : top (i + (j + 1)) = 4294967296 * top (i + j) := rfl
  rw [e]
  generalize hy : b.getD j 0 = y at *
  generalize rs.getD (i + j) 0 = z at *
  have hs := Int.emod_add_mul_ediv (c + (x * y + z)) 4294967296
  generalize (c + (x * y + z)) % 4294967296 = p at *
  generalize (c + (x * y + z)) / 4294967296 = q at *
  have h1 : top (i + j) * (p - z) + 4294967296 * top (i + j) * q = top (i + j) * c + top (i + j) * (x * y) := by
    have : p - z + 4294967296 * q = c + x * y := by omega
    rw [← Int.mul_add, ← this, Int.mul_add]
    congr 1
    rw [Int.mul_comm 4294967296 (top (i + j)), Int.mul_assoc]
  have h2 : top i * x * (top j * y) = top (i + j) * (x * y) := by
    rw [top_add]
    generalize top i = P
    generalize top j = Q
    rw [Int.mul_assoc, Int.mul_assoc, Int.mul_left_comm x Q y]
  rw [Int.mul_add, h2]
  omega
theorem mul_end {a b rs : List Int} {i : Nat} {c : Int} (hp : i + b.length < rs.length) (hz : rs.getD (i + b.length) 0 = 0)
    (h : nv rs + top (i + b.length) * c = nv (a.take i) * nv b + top i * a.getD i 0 * nv b) : nv (rs.set (i + b.length) c) = nv (a.take (i + 1)) * nv b := by
  rw [nv_set _ _ _ hp, hz, nv_take_succ a, Int.add_mul]
  simp only [Int.sub_zero]
  exact h
theorem mul_bound {x y : Int} (h0 : 0 ≤ x) (h1 : x < 4294967296) (h2 : 0 ≤ y) (h3 : y < 4294967296) : 0 ≤ x * y ∧ x * y ≤ 18446744065119617025 := by
  refine ⟨Int.mul_nonneg h0 h2, ?_⟩
  have a1 : x * y ≤ 4294967295 * y := Int.mul_le_mul_of_nonneg_right (by omega) h2
  omega
end Go.Proofs.YtjmklmcnlieplaaDoor
