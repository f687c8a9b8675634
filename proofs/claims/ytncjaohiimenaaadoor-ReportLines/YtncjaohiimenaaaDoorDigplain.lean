/- Decimal digits from the least on, and a row turned round in place: plain laws. -/
import Derived.Test.YtncjaohiimenaaaDoorBigPlain
import Derived.Lib.ItoaNum
namespace Go.Proofs.YtncjaohiimenaaaDoor
set_option maxRecDepth 100000

/-- The digits of u as bytes, the least first; none of 0. -/
def rdig (u : Nat) : List Int := if u = 0 then [] else ((48 + u % 10 : Nat) : Int) :: rdig (u / 10)
termination_by u
decreasing_by omega
theorem rdig_zero : rdig 0 = [] := by unfold rdig; simp
theorem rdig_pos {u : Nat} (h : u ≠ 0) : rdig u = ((48 + u % 10 : Nat) : Int) :: rdig (u / 10) := by rw [rdig, if_neg h]
theorem rdig_len : ∀ (k u : Nat), u < 10 ^ k → (rdig u).length ≤ k
  | 0, u, h => by
    have : u = 0 := by simpa using h
    subst this
    rw [rdig_zero]
    exact Nat.le_refl _
  | k + 1, u, h => by
    by_cases h0 : u = 0
    · subst h0; rw [rdig_zero]; simp
    · rw [rdig_pos h0]
      have := rdig_len k (u / 10) (by rw [Nat.div_lt_iff_lt_mul (by decide)]; rw [Nat.pow_succ] at h; exact h)
      simp; omega
/-- A byte's number as a byte. -/
def byt (x : Int) : UInt8 := UInt8.ofNat x.toNat
theorem dec_rdig (u : Nat) (h : u ≠ 0) : Lib.decDigits u = ((rdig u).reverse).map byt := by
  induction u using Nat.strongRecOn with
  | _ u ih =>
    rw [Lib.decDigits, rdig_pos h]
    split
    · rename_i h1
      have : u / 10 = 0 := by omega
      rw [this, rdig_zero]
      have e : u % 10 = u := by omega
      rw [e]
      rfl
    · rename_i h1
      rw [ih (u / 10) (by omega) (by omega), List.reverse_cons, List.map_append]
      rfl
theorem rdig_bytes : ∀ (u : Nat), ∀ x ∈ rdig u, 0 ≤ x ∧ x < 256 := by
  intro u
  induction u using Nat.strongRecOn with
  | _ u ih =>
    intro x hx
    by_cases h0 : u = 0
    · subst h0; rw [rdig_zero] at hx; cases hx
    · rw [rdig_pos h0] at hx
      rcases List.mem_cons.1 hx with rfl | hx
      · omega
      · exact ih (u / 10) (by omega) x hx

/-- A row of which the first k and the last k have changed places. -/
def rv (l : List Int) (k : Nat) : List Int := (List.range l.length).map fun t => if t < k ∨ l.length ≤ t + k then l.getD (l.length - 1 - t) 0 else l.getD t 0
theorem rv_len (l : List Int) (k : Nat) : (rv l k).length = l.length := by simp [rv]
theorem rv_at {l : List Int} {k t : Nat} (h : t < l.length) : (rv l k)[t]? = some (if t < k ∨ l.length ≤ t + k then l.getD (l.length - 1 - t) 0 else l.getD t 0) := by
  unfold rv
  rw [List.getElem?_map, List.getElem?_range h]
  rfl
theorem getD_of {l : List Int} {t : Nat} (h : t < l.length) : l[t]? = some (l.getD t 0) := by
  rw [List.getD_eq_getElem?_getD, List.getElem?_eq_getElem h]; rfl
theorem rv_zero (l : List Int) : rv l 0 = l := by
  apply List.ext_getElem?
  intro t
  by_cases h : t < l.length
  · rw [rv_at h, if_neg (by omega), getD_of h]
  · rw [List.getElem?_eq_none (by rw [rv_len]; omega), List.getElem?_eq_none (by omega)]
theorem rv_end (l : List Int) (k : Nat) (h : l.length ≤ 2 * k + 1) : rv l k = l.reverse := by
  apply List.ext_getElem?
  intro t
  by_cases ht : t < l.length
  · rw [rv_at ht, List.getElem?_reverse ht, getD_of (by omega)]
    split
    · rfl
    · rename_i hn
      congr 2
      omega
  · rw [List.getElem?_eq_none (by rw [rv_len]; omega), List.getElem?_eq_none (by simp; omega)]
theorem rv_getD {l : List Int} {k t : Nat} (h : t < l.length) (h1 : k ≤ t) (h2 : t + k < l.length) : (rv l k).getD t 0 = l.getD t 0 := by
  rw [List.getD_eq_getElem?_getD, rv_at h, if_neg (by omega)]
  rfl
theorem rv_step {l : List Int} {k : Nat} (h : 2 * k + 1 < l.length) :
    ((rv l k).set k ((rv l k).getD (l.length - 1 - k) 0)).set (l.length - 1 - k) ((rv l k).getD k 0) = rv l (k + 1) := by
  rw [rv_getD (t := l.length - 1 - k) (by omega) (by omega) (by omega), rv_getD (t := k) (by omega) (by omega) (by omega)]
  apply List.ext_getElem?
  intro t
  by_cases ht : t < l.length
  · rw [rv_at ht, List.getElem?_set, List.getElem?_set]
    by_cases e1 : l.length - 1 - k = t
    · rw [if_pos e1, if_pos (by simp [rv_len]; omega), if_pos (by omega)]
      congr 2
      omega
    · rw [if_neg e1]
      by_cases e2 : k = t
      · rw [if_pos e2, if_pos (by rw [rv_len]; omega), if_pos (by omega), e2]
      · rw [if_neg e2, rv_at ht]
        by_cases e3 : t < k ∨ l.length ≤ t + k
        · rw [if_pos e3, if_pos (by omega)]
        · rw [if_neg e3, if_neg (by omega)]
  · rw [List.getElem?_eq_none (by simp [rv_len]; omega), List.getElem?_eq_none (by rw [rv_len]; omega)]
theorem nv_len {l : List Int} {k : Nat} (h : Wds l) (hn : Norm l) (hv : nv l < top k) : l.length ≤ k := by
  by_cases h0 : l = []
  · subst h0; simp
  · have h1 := nv_norm h hn h0
    by_cases hk : l.length ≤ k
    · exact hk
    · have := top_mono (m := k) (n := l.length - 1) (by omega)
      omega
end Go.Proofs.YtncjaohiimenaaaDoor
